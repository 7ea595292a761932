/- The walk of VatTruths. -/
import Derived.Test.YtfdaiififoomoaaY4
namespace Go.Proofs.Ytfdaiififoomoaa
open Go.RowKit Go.Lib Go.Shelf
set_option linter.unusedVariables false
set_option linter.unusedSimpArgs false
attribute [local go_sem ↓] Go.wp_at_zero Go.wp_at_succ

def intsV (zs : List Int) : List Value := zs.map fun z => .int .i64 z
theorem intsV_append (xs ys : List Int) : intsV (xs ++ ys) = intsV xs ++ intsV ys := by simp [intsV]
theorem infoI : (Try.prog.info? 3).map (fun i => (i.zero, i.size, i.bytes)) = some (some (.int .i64 0), 1, 8) := by kernel_rfl
theorem ownsRow_empty (w : World) (e : TypeId) (size : Nat) : (w.alloc (.cells #[] e)).ownsRow w.heap.size e size (.slice (some ⟨w.heap.size, 0, none⟩) 0 0) 0 [] :=
  ⟨by simp, .inr ⟨w.heap.size, 0, #[], rfl, Nat.le_refl _, heap_alloc_new w _, Nat.le_refl _, Nat.zero_le _, by simp, by simp⟩⟩
theorem own_mono {w : World} {base base' : Nat} {e : TypeId} {size : Nat} {v : Value} {n : Nat} {xs : List Value} (h : w.ownsRow base' e size v n xs) (hb : base ≤ base') : w.ownsRow base e size v n xs := by
  refine ⟨h.1, ?_⟩
  rcases h.2 with h0 | ⟨g, cap, cur, e, hg, r⟩
  · exact .inl h0
  · exact .inr ⟨g, cap, cur, e, by omega, r⟩
/-- two slices share no block -/
def Ap (u v : Value) : Prop := ∀ g, u.ownBlock = some g → v.ownBlock ≠ some g
theorem Ap.symm {u v : Value} (h : Ap u v) : Ap v u := fun g hv hu => h g hu hv
theorem ap_new {u u' v : Value} {N : Nat} (h : Ap u v) (hu : u'.ownBlock = u.ownBlock ∨ ∃ g, u'.ownBlock = some g ∧ N ≤ g) (hv : ∀ g, v.ownBlock = some g → g < N) : Ap u' v := fun g h1 h2 => by
  rcases hu with e | ⟨g', e, hN⟩
  · rw [e] at h1; exact h g h1 h2
  · rw [e] at h1
    injection h1 with h1
    have := hv g h2
    omega
/-- what is held from deed to deed -/
def VtS (bw c tk cap : Nat) (vb : Nat → Nat) (base : Nat) (gv : Value) (k : Nat) (V7 V9 : Value) (film alone spoils : Int) (W : World) : Prop :=
  ∃ ls hs xs T p1 p2 fl fh V0, VtOk k ls hs xs film alone spoils T p1 p2 fl fh ∧ St1 1000000000 c tk cap vb base T p1 p2 fl fh gv V0 xs W ∧ W.ownsRow bw 3 1 V7 ls.length (intsV ls) ∧ W.ownsRow bw 31 2 V9 hs.length (flat hs) ∧ Ap V0 V7 ∧ Ap V0 V9 ∧ Ap V7 V9
theorem de_at {W : World} {g o : Nat} {d : De} (h : ∀ j u, (cDe d)[j]? = some u → W.cell? ⟨g, o + j, none⟩ = some u) : W.cell? ⟨g, o, none⟩ = some (.int .u8 d.what) ∧ W.cell? ⟨g, o + 1, none⟩ = some (.int .u8 d.tank) ∧ W.cell? ⟨g, o + 2, none⟩ = some (.int .u8 d.un) ∧ W.cell? ⟨g, o + 3, none⟩ = some (.int .u16 d.wa) ∧ W.cell? ⟨g, o + 4, none⟩ = some (.int .u16 d.su) ∧ W.cell? ⟨g, o + 5, none⟩ = some (.int .u8 d.l0) ∧ W.cell? ⟨g, o + 6, none⟩ = some (.int .u8 d.l1) ∧ W.cell? ⟨g, o + 7, none⟩ = some (.int .u8 d.t0) ∧ W.cell? ⟨g, o + 8, none⟩ = some (.int .u8 d.t1) :=
  ⟨h 0 _ rfl, h 1 _ rfl, h 2 _ rfl, h 3 _ rfl, h 4 _ rfl, h 5 _ rfl, h 6 _ rfl, h 7 _ rfl, h 8 _ rfl⟩
theorem tr_at {W : World} {g o : Nat} {d : Tr} (h : ∀ j u, (cTr d)[j]? = some u → W.cell? ⟨g, o + j, none⟩ = some u) : W.cell? ⟨g, o, none⟩ = some (.int .u8 d.lo) ∧ W.cell? ⟨g, o + 1, none⟩ = some (.int .u8 d.te) ∧ W.cell? ⟨g, o + 2, none⟩ = some (.int .u8 d.gr) ∧ W.cell? ⟨g, o + 3, none⟩ = some (.int .u8 d.fi) :=
  ⟨h 0 _ rfl, h 1 _ rfl, h 2 _ rfl, h 3 _ rfl⟩
theorem field_rules (v : Value) (w : World) : (Instr.field 33 (.agg #[v, .int .i64 1000, .int .i64 1, .int .i64 2]) 0).run Try.prog w = .ok v w := by kernel_rfl
theorem grow_stepI (f : Int → Int) (xs : List Int) (j : Nat) (l : Int) (h : xs[j]? = some l) : ((xs.take j).map f ++ xs.drop j)[j]? = some l ∧ ((xs.take j).map f ++ xs.drop j).set j (f l) = (xs.take (j + 1)).map f ++ xs.drop (j + 1) := by
  have hl : j < xs.length := (List.getElem?_eq_some_iff.1 h).1
  have hd : xs.drop j = l :: xs.drop (j + 1) := by
    rw [List.drop_eq_getElem_cons hl]
    rw [List.getElem?_eq_getElem hl] at h
    injection h with h
    rw [h]
  have hlen : ((xs.take j).map f).length = j := by simp; omega
  rw [hd]
  refine ⟨by rw [List.getElem?_append_right (by omega), hlen]; simp, ?_⟩
  rw [List.set_append_right _ _ (by omega), hlen, Nat.sub_self, List.set_cons_zero, List.take_add_one, h, List.map_append, List.append_assoc]
  rfl
theorem lots_hull {ls : List Int} {xs : List Lo} {N : Int} (h : LotsOk ls xs N) (hN : N ≤ 1000000) (hl : ls.length ≤ 100) (j : Nat) (l : Int) (hj : ls[j]? = some l) : huL (xs.map gm) ≤ l ∧ l ≤ huH (xs.map gm) := by
  have hlt : j < ls.length := (List.getElem?_eq_some_iff.1 hj).1
  have hx : xs[j]? = some (xs[j]'(by rw [h.1]; exact hlt)) := List.getElem?_eq_getElem _
  have hb := h.2 j _ l hx hj
  have hv : vrsB (xs.map gm) = true := by
    unfold vrsB
    rw [List.all_eq_true]
    intro p hp
    obtain ⟨y, hy, rfl⟩ := List.mem_map.1 hp
    have := lots_mem h hy
    show vrB y.lo y.hi = true
    unfold vrB
    simp only [Bool.and_eq_true, decide_eq_true_eq]
    omega
  have hlen : (xs.map gm).length = ls.length := by simp [h.1]
  have hc : chkS (xs.map gm) = 0 := by
    unfold chkS
    have h1 : chkL (xs.map gm) = 0 := by
      unfold chkL
      simp only [hv, hlen]
      split <;> first | rfl | (exfalso; omega) | simp_all
    rw [if_pos h1, if_neg (by rw [hlen]; omega)]
  have := hull_has hc (p := gm (xs[j]'(by rw [h.1]; exact hlt))) (List.mem_map_of_mem (List.mem_of_getElem? hx))
  simp only [gm] at this
  omega
theorem suffW {R G : Nat → Value → World → Prop} {P : Prop} (main : (∀ g v W, R g v W → G g v W) → P) (key : ∀ g v W, R g v W → G g v W) : P := main key
theorem suffV {R G : Nat → World → Prop} {P : Prop} (main : (∀ g W, R g W → G g W) → P) (key : ∀ g W, R g W → G g W) : P := main key

set_option maxRecDepth 40000 in
set_option maxHeartbeats 16000000 in
theorem truths_walk (v0 v1 : Value) (ds : List De) (ts : List Tr) (w : World) (hv : SlAt 9 cDe DeB w v0 ds) (hv1 : SlAt 4 cTr TrB w v1 ts) :
    Calls Try.prog 3 #[v0, v1] w fun e w' => e = .returned (.bool true) ∧ Below w.heap.size w w' := by
  have CN := Lib.hid known_any
  obtain ⟨Aw, cw, rfl, hr⟩ := hv
  obtain ⟨Ax, cx, rfl, hr1⟩ := hv1
  obtain ⟨n, hn⟩ : ∃ n, ds.length = n := ⟨_, rfl⟩
  obtain ⟨m, hm⟩ : ∃ n, ts.length = n := ⟨_, rfl⟩
  rw [hn] at hr ⊢
  rw [hm] at hr1 ⊢
  have HR := Lib.hid hr
  have HX := Lib.hid hr1
  have Hn := Lib.hid hn
  have Hm := Lib.hid hm
  clear hr hr1 hn hm
  obtain ⟨b1, h1⟩ : ∃ q, decide ((20 : Int) < (n : Int)) = q := ⟨_, rfl⟩
  obtain ⟨b2, h2⟩ : ∃ q, decide ((m : Int) < 1) = q := ⟨_, rfl⟩
  have hq : b1 = false → b2 = false → n ≤ 20 ∧ 1 ≤ m := fun a b => by subst a b; simp at h1 h2; omega
  cases b1
  · cases b2
    · obtain ⟨hn20, hm1⟩ := hq rfl rfl
      clear hq
      obtain ⟨gX, oX, rfl, hgX, hcX⟩ := HX.out (by omega)
      replace HX := Lib.hid hcX
      clear hcX
      go_enter Try.func3, Try.ntmps3
      go_wp2_with fail
      refine (rules_any _).mono ?_
      rintro e W1 ⟨vr, rfl, hvr, hb⟩
      have hB := hb
      clear hb
      have hT1 := Lib.hid hvr
      clear hvr
      go_wp2_with fail
      have HNew := new_st1 1000000000 (by decide)
      refine (HNew _ _ _ ((hT1.out.below ((Below.refl _ _).alloc (Nat.le_refl _) _) (Nat.le_refl _)).mono (by simp)) ((ns_one (by simp [go_sem])).mono (by simp))).mono ?_
      rintro e W2 ⟨c, tk, cap, vb, gv, rfl, hFx, hwc, hS, hb⟩
      have hWw := hB.size
      simp at hwc
      have nW : w.heap.size ≤ c := by omega
      replace hB := hB.trans ((below1 hb).mono hB.size)
      clear hb HNew hT1
      have F1 := Lib.hid hFx
      obtain ⟨f1, f2, f3, f4, f5, f6⟩ := hFx
      have HS := Lib.hid hS
      have hcs : c < W2.heap.size := hS.1.nc
      clear hS hwc hWw
      go_wp2_with fail
      have own7 := World.ownsRow.alloc (ownsRow_empty W2 3 1) (Obj.cells #[] 31)
      have own9 := own_mono (ownsRow_empty (W2.alloc (Obj.cells #[] 3)) 31 2) (show W2.heap.size ≤ _ by simp)
      have hbe := below_al2 W2 (Obj.cells #[] 3) (Obj.cells #[] 31)
      replace HS := Lib.hid (HS.out.below hbe)
      replace hB := hB.trans (hbe.mono hB.size)
      have hbw : W2.heap.size < ((W2.alloc (Obj.cells #[] 3)).alloc (Obj.cells #[] 31)).heap.size := by simp; omega
      simp only [World.size_alloc] at own7 own9 ⊢
      generalize ((W2.alloc (Obj.cells #[] 3)).alloc (Obj.cells #[] 31)) = W4 at *
      clear hbe
      generalize W2.heap.size = bw at *
      have HV : Hid (VtS bw c tk cap vb bw gv 0 (.slice (some ⟨bw, 0, none⟩) 0 0) (.slice (some ⟨bw + 1, 0, none⟩) 0 0) 0 0 (-1) W4) := Lib.hid ⟨[], [], [], 0, 0, 0, 0, 0, .slice none 0 0, vt_start, HS.out, own7, own9, (fun g h => by cases h), (fun g h => by cases h), (fun g h h' => by simp [Value.ownBlock] at h h'; omega)⟩
      clear HS own7 own9
      obtain ⟨i0, hi0, hz0, hz1, hz2⟩ := info_parts infoRg
      obtain ⟨j0, hj0, hy0, hy1, hy2⟩ := info_parts infoI
      go_loopw [12, 7, 8, 9, 10, 11] (fun i V7 f8 V9 p10 p11 wr => ∃ (k : Nat) (film alone spoils : Int), k ≤ n ∧ i = .int .i64 (k : Int) ∧ f8 = .int .i64 film ∧ p10 = .int .i64 spoils ∧ p11 = .int .i64 alone ∧ Hid (VtS bw c tk cap vb bw gv k V7 V9 film alone spoils wr) ∧ bw < wr.heap.size ∧ Below c W4 wr) (fun i _ _ _ _ _ _ => n - (RowKit.intOf i).toNat)
      case atStart => exact ⟨0, 0, 0, -1, Nat.zero_le _, rfl, rfl, rfl, rfl, HV, hbw, Below.refl _ _⟩
      case round =>
        clear HV
        obtain ⟨k, film, alone, spoils, hk, rfl, rfl, rfl, rfl, HV, hbr, hBc⟩ := hrel
        generalize wr = wo at *
        by_cases hlt : k < n
        · obtain ⟨dd, hp⟩ : ∃ p, ds[k]? = some p := ⟨_, List.getElem?_eq_getElem (by rw [Hn.out]; exact hlt)⟩
          obtain ⟨gD, oD, rfl, hgD, hcD⟩ := HR.out (by omega)
          obtain ⟨hcd, hdb⟩ := hcD k _ hp
          clear hcD hp
          obtain ⟨kx, hkx⟩ : ∃ q, k % m = q := ⟨_, rfl⟩
          have hkm : kx < m := by rw [← hkx]; exact Nat.mod_lt _ (by omega)
          have hkk : kx ≤ k := by rw [← hkx]; exact Nat.mod_le _ _
          obtain ⟨tr, ht⟩ : ∃ p, ts[kx]? = some p := ⟨_, List.getElem?_eq_getElem (by rw [Hm.out]; exact hkm)⟩
          obtain ⟨hct, htb⟩ := HX.out kx _ ht
          clear ht
          have hBw := hB.trans (hBc.mono nW)
          obtain ⟨D0, D1, D2, D3, D4, D5, D6, D7, D8⟩ := de_at hcd
          obtain ⟨X0, X1, X2, X3⟩ := tr_at hct
          clear hcd hct
          replace D0 := cell_next hBw hgD D0
          replace D1 := cell_next hBw hgD D1
          replace D2 := cell_next hBw hgD D2
          replace D3 := cell_next hBw hgD D3
          replace D4 := cell_next hBw hgD D4
          replace D5 := cell_next hBw hgD D5
          replace D6 := cell_next hBw hgD D6
          replace D7 := cell_next hBw hgD D7
          replace D8 := cell_next hBw hgD D8
          replace X0 := cell_next hBw hgX X0
          replace X1 := cell_next hBw hgX X1
          replace X2 := cell_next hBw hgX X2
          replace X3 := cell_next hBw hgX X3
          have nD : gD < wo.heap.size := Nat.lt_of_lt_of_le hgD hBw.size
          have tm : ((k : Int).tmod (m : Int)) = (kx : Int) := by rw [Int.tmod_eq_emod_of_nonneg (by omega), ← hkx]; rfl
          have tm2 : ((k : Int) % (m : Int)) = (kx : Int) := by rw [← hkx]; rfl
          have tm3 : ((k % m : Nat) : Int) = (kx : Int) := by rw [hkx]
          have wkx : IntKind.i64.wrap (kx : Int) = (kx : Int) := IntWalk.i64_in _ (by omega)
          have mz : ((m : Int) = 0) = False := by simp; omega
          have mz2 : (m = 0) = False := by simp; omega
          have kx0 : (0 : Int) ≤ (kx : Int) := by omega
          have kx1 : (kx : Int) < (m : Int) := by omega
          have hkn : decide ((k : Int) < (n : Int)) = true := by simp; omega
          have wt1 : dd.what.tmod 2 = dd.what % 2 := Int.tmod_eq_emod_of_nonneg hdb.what.1
          have wt2 : IntKind.u8.wrap (dd.what % 2) = dd.what % 2 := by have := hdb.what; have h1 := Int.emod_nonneg dd.what (show (2 : Int) ≠ 0 by omega); have h2 := Int.emod_lt_of_pos dd.what (show (0 : Int) < 2 by omega); generalize dd.what % 2 = q at *; rcases (by omega : q = 0 ∨ q = 1) with rfl | rfl <;> rfl
          obtain ⟨bq, hbq⟩ : ∃ q, (dd.what % 2 == 0) = q := ⟨_, rfl⟩
          have hbq2 : decide (dd.what % 2 = 0) = bq := by rw [← hbq]; rfl
          cases bq
          · as_aux_lemma =>
              go_wp2_with fail
              have hbY := (Below.refl wo.heap.size wo).alloc (Nat.le_refl _) (Obj.cells #[.int .u8 tr.lo, .int .u8 tr.te, .int .u8 tr.gr, .int .u8 tr.fi] 38)
              replace D0 := cell_next hbY nD D0
              replace D1 := cell_next hbY nD D1
              replace D2 := cell_next hbY nD D2
              replace D3 := cell_next hbY nD D3
              replace D4 := cell_next hbY nD D4
              replace D5 := cell_next hbY nD D5
              replace D6 := cell_next hbY nD D6
              replace D7 := cell_next hbY nD D7
              replace D8 := cell_next hbY nD D8
              replace nD := Nat.lt_of_lt_of_le nD hbY.size
              have Y0 : (wo.alloc (Obj.cells #[.int .u8 tr.lo, .int .u8 tr.te, .int .u8 tr.gr, .int .u8 tr.fi] 38)).cell? ⟨wo.heap.size, 0, none⟩ = some (.int .u8 tr.lo) := cell_new _ _ _ 0
              have Y1 : (wo.alloc (Obj.cells #[.int .u8 tr.lo, .int .u8 tr.te, .int .u8 tr.gr, .int .u8 tr.fi] 38)).cell? ⟨wo.heap.size, 1, none⟩ = some (.int .u8 tr.te) := cell_new _ _ _ 1
              have Y2 : (wo.alloc (Obj.cells #[.int .u8 tr.lo, .int .u8 tr.te, .int .u8 tr.gr, .int .u8 tr.fi] 38)).cell? ⟨wo.heap.size, 2, none⟩ = some (.int .u8 tr.gr) := cell_new _ _ _ 2
              have Y3 : (wo.alloc (Obj.cells #[.int .u8 tr.lo, .int .u8 tr.te, .int .u8 tr.gr, .int .u8 tr.fi] 38)).cell? ⟨wo.heap.size, 3, none⟩ = some (.int .u8 tr.fi) := cell_new _ _ _ 3
              have nY : wo.heap.size < (wo.alloc (Obj.cells #[.int .u8 tr.lo, .int .u8 tr.te, .int .u8 tr.gr, .int .u8 tr.fi] 38)).heap.size := by simp
              obtain ⟨ls, hs, xs, T, p1, p2, fl, fh, V0, hok, hS, ho7, ho9, a07, a09, a79⟩ := HV.out
              clear HV X0 X1 X2 X3
              have hl7 := World.ownsRow.lt ho7
              have hl9 := World.ownsRow.lt ho9
              have hl0 : ∀ g, V0.ownBlock = some g → bw ≤ g ∧ g < wo.heap.size := World.ownsRow.lt hS.2.1.2
              have HS := Lib.hid (hS.below hbY)
              have H7 := Lib.hid (own_below ho7 hbY)
              have H9 := Lib.hid (own_below ho9 hbY)
              clear hS ho7 ho9
              replace hBc := hBc.trans (hbY.mono (by have := hBc.size; omega))
              have hgYc : bw < wo.heap.size := hbr
              clear hbY tm tm2 tm3 wkx mz mz2 kx0 kx1 hkn wt1 wt2 hbq hbq2 hbr
              generalize wo.alloc (Obj.cells #[.int .u8 tr.lo, .int .u8 tr.te, .int .u8 tr.gr, .int .u8 tr.fi] 38) = Wy at *
              generalize wo.heap.size = gY at *
              obtain ⟨ti1, ti2, ti3⟩ := te_in hdb
              have hun := hdb.un
              obtain ⟨nn, hnn⟩ : ∃ q : Nat, dd.un % 10 = (q : Int) := ⟨(dd.un % 10).toNat, by have := Int.emod_nonneg dd.un (show (10 : Int) ≠ 0 by omega); omega⟩
              have hn9 : nn ≤ 9 := by have := Int.emod_lt_of_pos dd.un (show (0 : Int) < 10 by omega); omega
              have tmu : dd.un.tmod 10 = (nn : Int) := by rw [Int.tmod_eq_emod_of_nonneg hun.1, hnn]
              have wu8 : IntKind.u8.wrap (nn : Int) = (nn : Int) := by rcases (by omega : nn = 0 ∨ nn = 1 ∨ nn = 2 ∨ nn = 3 ∨ nn = 4 ∨ nn = 5 ∨ nn = 6 ∨ nn = 7 ∨ nn = 8 ∨ nn = 9) with h | h | h | h | h | h | h | h | h | h <;> subst h <;> rfl
              have wi : IntKind.i64.wrap (nn : Int) = (nn : Int) := IntWalk.i64_in _ (by omega)
              have CTe := Lib.hid (temps_any dd hdb)
              simp only [cDe] at CTe
              generalize teL dd = tl at *
              generalize teH dd = th at *
              have hBW : Wy.heap.size ≤ Wy.heap.size := Nat.le_refl _
              apply suffV (R := fun gA W => gA < W.heap.size ∧ Wy.heap.size ≤ gA ∧ W.cell? ⟨gA, 0, none⟩ = some (.int .i64 tl) ∧ W.cell? ⟨gA, 1, none⟩ = some (.int .i64 th) ∧ Below Wy.heap.size Wy W)
              case main =>
                intro key
                refine wp_region_held_drew (S := fun w' => w'.cell? ⟨gD, oD + k * 9, none⟩ = some (.int .u8 dd.what) ∧ w'.cell? ⟨gD, oD + k * 9 + 1, none⟩ = some (.int .u8 dd.tank) ∧ w'.cell? ⟨gD, oD + k * 9 + 2, none⟩ = some (.int .u8 dd.un) ∧ w'.cell? ⟨gD, oD + k * 9 + 3, none⟩ = some (.int .u16 dd.wa) ∧ w'.cell? ⟨gD, oD + k * 9 + 4, none⟩ = some (.int .u16 dd.su) ∧ w'.cell? ⟨gD, oD + k * 9 + 5, none⟩ = some (.int .u8 dd.l0) ∧ w'.cell? ⟨gD, oD + k * 9 + 6, none⟩ = some (.int .u8 dd.l1) ∧ w'.cell? ⟨gD, oD + k * 9 + 7, none⟩ = some (.int .u8 dd.t0) ∧ w'.cell? ⟨gD, oD + k * 9 + 8, none⟩ = some (.int .u8 dd.t1) ∧ True) (by kernel_rfl) ?_ (fun hHeld => ?_)
                focus (exact ⟨D0, D1, D2, D3, D4, D5, D6, D7, D8, trivial⟩)
                have hL : Below Wy.heap.size Wy Wy.drew := Below.drew (Below.refl _ _)
                replace D0 : Wy.drew.cell? ⟨gD, oD + k * 9, none⟩ = some (.int .u8 dd.what) := D0
                replace D1 : Wy.drew.cell? ⟨gD, oD + k * 9 + 1, none⟩ = some (.int .u8 dd.tank) := D1
                replace D2 : Wy.drew.cell? ⟨gD, oD + k * 9 + 2, none⟩ = some (.int .u8 dd.un) := D2
                replace D3 : Wy.drew.cell? ⟨gD, oD + k * 9 + 3, none⟩ = some (.int .u16 dd.wa) := D3
                replace D4 : Wy.drew.cell? ⟨gD, oD + k * 9 + 4, none⟩ = some (.int .u16 dd.su) := D4
                replace D5 : Wy.drew.cell? ⟨gD, oD + k * 9 + 5, none⟩ = some (.int .u8 dd.l0) := D5
                replace D6 : Wy.drew.cell? ⟨gD, oD + k * 9 + 6, none⟩ = some (.int .u8 dd.l1) := D6
                replace D7 : Wy.drew.cell? ⟨gD, oD + k * 9 + 7, none⟩ = some (.int .u8 dd.t0) := D7
                replace D8 : Wy.drew.cell? ⟨gD, oD + k * 9 + 8, none⟩ = some (.int .u8 dd.t1) := D8
                replace nD : gD < Wy.drew.heap.size := nD
                generalize hWd : Wy.drew = wd18 at hHeld hL D0 D1 D2 D3 D4 D5 D6 D7 D8 nD  ⊢
                clear hWd
                refine take_slot (i := 0) (d := 123) (v := ?_) rfl rfl (by kernel_rfl) (by kernel_rfl) (by kernel_rfl) (fun _ _ _ h => h) (Or.inl ⟨by rfl, ?_⟩) (by assumption) ?_
                rotate_left 1
                focus (intro wS hSw; (try dsimp only at hSw); go_simp; try with_reducible rfl)
                try simp only [List.setIfInBounds_toArray, List.set_cons_zero, List.set_cons_succ]
                refine take_slot (i := 1) (d := 124) (v := ?_) rfl rfl (by kernel_rfl) (by kernel_rfl) (by kernel_rfl) (fun _ _ _ h => h) (Or.inl ⟨by rfl, ?_⟩) (by assumption) ?_
                rotate_left 1
                focus (intro wS hSw; (try dsimp only at hSw); go_simp; try with_reducible rfl)
                try simp only [List.setIfInBounds_toArray, List.set_cons_zero, List.set_cons_succ]
                refine take_slot (i := 2) (d := 125) (v := ?_) rfl rfl (by kernel_rfl) (by kernel_rfl) (by kernel_rfl) (fun _ _ _ h => h) (Or.inl ⟨by rfl, ?_⟩) (by assumption) ?_
                rotate_left 1
                focus (intro wS hSw; (try dsimp only at hSw); go_simp; try with_reducible rfl)
                try simp only [List.setIfInBounds_toArray, List.set_cons_zero, List.set_cons_succ]
                refine take_slot (i := 3) (d := 126) (v := ?_) rfl rfl (by kernel_rfl) (by kernel_rfl) (by kernel_rfl) (fun _ _ _ h => h) (Or.inl ⟨by rfl, ?_⟩) (by assumption) ?_
                rotate_left 1
                focus (intro wS hSw; (try dsimp only at hSw); go_simp; try with_reducible rfl)
                try simp only [List.setIfInBounds_toArray, List.set_cons_zero, List.set_cons_succ]
                refine take_slot (i := 4) (d := 127) (v := ?_) rfl rfl (by kernel_rfl) (by kernel_rfl) (by kernel_rfl) (fun _ _ _ h => h) (Or.inl ⟨by rfl, ?_⟩) (by assumption) ?_
                rotate_left 1
                focus (intro wS hSw; (try dsimp only at hSw); go_simp; try with_reducible rfl)
                try simp only [List.setIfInBounds_toArray, List.set_cons_zero, List.set_cons_succ]
                refine take_slot (i := 5) (d := 128) (v := ?_) rfl rfl (by kernel_rfl) (by kernel_rfl) (by kernel_rfl) (fun _ _ _ h => h) (Or.inl ⟨by rfl, ?_⟩) (by assumption) ?_
                rotate_left 1
                focus (intro wS hSw; (try dsimp only at hSw); go_simp; try with_reducible rfl)
                try simp only [List.setIfInBounds_toArray, List.set_cons_zero, List.set_cons_succ]
                refine take_slot (i := 6) (d := 129) (v := ?_) rfl rfl (by kernel_rfl) (by kernel_rfl) (by kernel_rfl) (fun _ _ _ h => h) (Or.inl ⟨by rfl, ?_⟩) (by assumption) ?_
                rotate_left 1
                focus (intro wS hSw; (try dsimp only at hSw); go_simp; try with_reducible rfl)
                try simp only [List.setIfInBounds_toArray, List.set_cons_zero, List.set_cons_succ]
                refine take_slot (i := 7) (d := 130) (v := ?_) rfl rfl (by kernel_rfl) (by kernel_rfl) (by kernel_rfl) (fun _ _ _ h => h) (Or.inl ⟨by rfl, ?_⟩) (by assumption) ?_
                rotate_left 1
                focus (intro wS hSw; (try dsimp only at hSw); go_simp; try with_reducible rfl)
                try simp only [List.setIfInBounds_toArray, List.set_cons_zero, List.set_cons_succ]
                refine take_slot (i := 8) (d := 131) (v := ?_) rfl rfl (by kernel_rfl) (by kernel_rfl) (by kernel_rfl) (fun _ _ _ h => h) (Or.inl ⟨by rfl, ?_⟩) (by assumption) ?_
                rotate_left 1
                focus (intro wS hSw; (try dsimp only at hSw); go_simp; try with_reducible rfl)
                try simp only [List.setIfInBounds_toArray, List.set_cons_zero, List.set_cons_succ]
                refine take_slot (i := 9) (d := 132) (v := ?_) rfl rfl (by kernel_rfl) (by kernel_rfl) (by kernel_rfl) (fun _ _ _ h => h) (Or.inl ⟨by rfl, ?_⟩) (by assumption) ?_
                rotate_left 1
                focus (intro wS hSw; (try dsimp only at hSw); go_simp; try with_reducible rfl)
                try simp only [List.setIfInBounds_toArray, List.set_cons_zero, List.set_cons_succ]
                refine take_slot (i := 10) (d := 133) (v := ?_) rfl rfl (by kernel_rfl) (by kernel_rfl) (by kernel_rfl) (fun _ _ _ h => h) (Or.inl ⟨by rfl, ?_⟩) (by assumption) ?_
                rotate_left 1
                focus (intro wS hSw; (try dsimp only at hSw); go_simp; try with_reducible rfl)
                try simp only [List.setIfInBounds_toArray, List.set_cons_zero, List.set_cons_succ]
                refine wpAnyH_ready (rs := [11, 12]) (by kernel_rfl) (by simp) ?_
                refine AllReadyH.cons rfl (fun K hK => ?_) (AllReadyH.cons rfl (fun K hK => ?_) AllReadyH.nil)
                · go_simp
                  refine (CTe.out _).mono ?_
                  rintro e Z18x1 ⟨rfl, hb⟩
                  replace D0 := cell_next hb nD D0
                  replace D1 := cell_next hb nD D1
                  replace D2 := cell_next hb nD D2
                  replace D3 := cell_next hb nD D3
                  replace D4 := cell_next hb nD D4
                  replace D5 := cell_next hb nD D5
                  replace D6 := cell_next hb nD D6
                  replace D7 := cell_next hb nD D7
                  replace D8 := cell_next hb nD D8
                  replace nD := Nat.lt_of_lt_of_le nD hb.size
                  replace hL := hL.trans (hb.mono (Nat.le_trans hBW hL.size))
                  refine hK.out _ _ ⟨D0, D1, D2, D3, D4, D5, D6, D7, D8, trivial⟩ (fun hHeld => ?_)
                  clear hK K hb
                  try simp only [Act.put, List.setIfInBounds_toArray, List.set_cons_zero, List.set_cons_succ]
                  refine wpAnyH_ready (rs := [12]) (by kernel_rfl) (by simp) ?_
                  refine AllReadyH.cons rfl (fun K hK => ?_) AllReadyH.nil
                  go_simp
                  have hb := (Below.refl Z18x1.heap.size Z18x1).alloc (Nat.le_refl _) (Obj.cells #[.int .i64 0, .int .i64 0] 31)
                  have szZ18x2 := hL.size
                  have ord2nD := nD
                  replace D0 := cell_next hb nD D0
                  replace D1 := cell_next hb nD D1
                  replace D2 := cell_next hb nD D2
                  replace D3 := cell_next hb nD D3
                  replace D4 := cell_next hb nD D4
                  replace D5 := cell_next hb nD D5
                  replace D6 := cell_next hb nD D6
                  replace D7 := cell_next hb nD D7
                  replace D8 := cell_next hb nD D8
                  replace nD := Nat.lt_of_lt_of_le nD hb.size
                  replace hL := hL.trans (hb.mono (Nat.le_trans hBW hL.size))
                  have Af0 : (Z18x1.alloc (Obj.cells #[.int .i64 0, .int .i64 0] 31)).frozen? ⟨Z18x1.heap.size, 0, none⟩ = false := by simp [go_sem]
                  have Af1 : (Z18x1.alloc (Obj.cells #[.int .i64 0, .int .i64 0] 31)).frozen? ⟨Z18x1.heap.size, 1, none⟩ = false := by simp [go_sem]
                  have A0 : (Z18x1.alloc (Obj.cells #[.int .i64 0, .int .i64 0] 31)).cell? ⟨Z18x1.heap.size, 0, none⟩ = some (.int .i64 0) := cell_new _ _ _ 0
                  have A1 : (Z18x1.alloc (Obj.cells #[.int .i64 0, .int .i64 0] 31)).cell? ⟨Z18x1.heap.size, 1, none⟩ = some (.int .i64 0) := cell_new _ _ _ 1
                  have nA : Z18x1.heap.size < (Z18x1.alloc (Obj.cells #[.int .i64 0, .int .i64 0] 31)).heap.size := by simp
                  refine hK.out _ _ ⟨D0, D1, D2, D3, D4, D5, D6, D7, D8, trivial⟩ (fun hHeld => ?_)
                  clear hK K hb
                  generalize Z18x1.alloc (Obj.cells #[.int .i64 0, .int .i64 0] 31) = Z18x2 at *
                  try simp only [Act.put, List.setIfInBounds_toArray, List.set_cons_zero, List.set_cons_succ]
                  refine take_slot (i := 13) (d := 16) (v := ?_) rfl rfl (by kernel_rfl) (by kernel_rfl) (by kernel_rfl) (fun _ _ _ h => h) (Or.inl ⟨by rfl, ?_⟩) (by assumption) ?_
                  rotate_left 1
                  focus (intro wS hSw; (try dsimp only at hSw); go_simp; try with_reducible rfl)
                  try simp only [List.setIfInBounds_toArray, List.set_cons_zero, List.set_cons_succ]
                  refine wpAnyH_ready (rs := [14]) (by kernel_rfl) (by simp) ?_
                  refine AllReadyH.cons rfl (fun K hK => ?_) AllReadyH.nil
                  go_simp
                  replace D0 : ((Z18x2.setCell ⟨Z18x1.heap.size, 0, none⟩ (.int .i64 tl)).setCell ⟨Z18x1.heap.size, 1, none⟩ (.int .i64 th)).cell? ⟨gD, oD + k * 9, none⟩ = some (.int .u8 dd.what) := ((World.cell?_setCell_other _ _ _ _ (by intro e; injection e with e1 e2; omega)).trans ((World.cell?_setCell_other _ _ _ _ (by intro e; injection e with e1 e2; omega)).trans D0))
                  replace D1 : ((Z18x2.setCell ⟨Z18x1.heap.size, 0, none⟩ (.int .i64 tl)).setCell ⟨Z18x1.heap.size, 1, none⟩ (.int .i64 th)).cell? ⟨gD, oD + k * 9 + 1, none⟩ = some (.int .u8 dd.tank) := ((World.cell?_setCell_other _ _ _ _ (by intro e; injection e with e1 e2; omega)).trans ((World.cell?_setCell_other _ _ _ _ (by intro e; injection e with e1 e2; omega)).trans D1))
                  replace D2 : ((Z18x2.setCell ⟨Z18x1.heap.size, 0, none⟩ (.int .i64 tl)).setCell ⟨Z18x1.heap.size, 1, none⟩ (.int .i64 th)).cell? ⟨gD, oD + k * 9 + 2, none⟩ = some (.int .u8 dd.un) := ((World.cell?_setCell_other _ _ _ _ (by intro e; injection e with e1 e2; omega)).trans ((World.cell?_setCell_other _ _ _ _ (by intro e; injection e with e1 e2; omega)).trans D2))
                  replace D3 : ((Z18x2.setCell ⟨Z18x1.heap.size, 0, none⟩ (.int .i64 tl)).setCell ⟨Z18x1.heap.size, 1, none⟩ (.int .i64 th)).cell? ⟨gD, oD + k * 9 + 3, none⟩ = some (.int .u16 dd.wa) := ((World.cell?_setCell_other _ _ _ _ (by intro e; injection e with e1 e2; omega)).trans ((World.cell?_setCell_other _ _ _ _ (by intro e; injection e with e1 e2; omega)).trans D3))
                  replace D4 : ((Z18x2.setCell ⟨Z18x1.heap.size, 0, none⟩ (.int .i64 tl)).setCell ⟨Z18x1.heap.size, 1, none⟩ (.int .i64 th)).cell? ⟨gD, oD + k * 9 + 4, none⟩ = some (.int .u16 dd.su) := ((World.cell?_setCell_other _ _ _ _ (by intro e; injection e with e1 e2; omega)).trans ((World.cell?_setCell_other _ _ _ _ (by intro e; injection e with e1 e2; omega)).trans D4))
                  replace D5 : ((Z18x2.setCell ⟨Z18x1.heap.size, 0, none⟩ (.int .i64 tl)).setCell ⟨Z18x1.heap.size, 1, none⟩ (.int .i64 th)).cell? ⟨gD, oD + k * 9 + 5, none⟩ = some (.int .u8 dd.l0) := ((World.cell?_setCell_other _ _ _ _ (by intro e; injection e with e1 e2; omega)).trans ((World.cell?_setCell_other _ _ _ _ (by intro e; injection e with e1 e2; omega)).trans D5))
                  replace D6 : ((Z18x2.setCell ⟨Z18x1.heap.size, 0, none⟩ (.int .i64 tl)).setCell ⟨Z18x1.heap.size, 1, none⟩ (.int .i64 th)).cell? ⟨gD, oD + k * 9 + 6, none⟩ = some (.int .u8 dd.l1) := ((World.cell?_setCell_other _ _ _ _ (by intro e; injection e with e1 e2; omega)).trans ((World.cell?_setCell_other _ _ _ _ (by intro e; injection e with e1 e2; omega)).trans D6))
                  replace D7 : ((Z18x2.setCell ⟨Z18x1.heap.size, 0, none⟩ (.int .i64 tl)).setCell ⟨Z18x1.heap.size, 1, none⟩ (.int .i64 th)).cell? ⟨gD, oD + k * 9 + 7, none⟩ = some (.int .u8 dd.t0) := ((World.cell?_setCell_other _ _ _ _ (by intro e; injection e with e1 e2; omega)).trans ((World.cell?_setCell_other _ _ _ _ (by intro e; injection e with e1 e2; omega)).trans D7))
                  replace D8 : ((Z18x2.setCell ⟨Z18x1.heap.size, 0, none⟩ (.int .i64 tl)).setCell ⟨Z18x1.heap.size, 1, none⟩ (.int .i64 th)).cell? ⟨gD, oD + k * 9 + 8, none⟩ = some (.int .u8 dd.t1) := ((World.cell?_setCell_other _ _ _ _ (by intro e; injection e with e1 e2; omega)).trans ((World.cell?_setCell_other _ _ _ _ (by intro e; injection e with e1 e2; omega)).trans D8))
                  replace Af0 : ((Z18x2.setCell ⟨Z18x1.heap.size, 0, none⟩ (.int .i64 tl)).setCell ⟨Z18x1.heap.size, 1, none⟩ (.int .i64 th)).frozen? ⟨Z18x1.heap.size, 0, none⟩ = false := by simp [go_sem, Af0]
                  replace Af1 : ((Z18x2.setCell ⟨Z18x1.heap.size, 0, none⟩ (.int .i64 tl)).setCell ⟨Z18x1.heap.size, 1, none⟩ (.int .i64 th)).frozen? ⟨Z18x1.heap.size, 1, none⟩ = false := by simp [go_sem, Af1]
                  replace A0 : ((Z18x2.setCell ⟨Z18x1.heap.size, 0, none⟩ (.int .i64 tl)).setCell ⟨Z18x1.heap.size, 1, none⟩ (.int .i64 th)).cell? ⟨Z18x1.heap.size, 0, none⟩ = some (.int .i64 tl) := by simp [go_sem, A0]
                  replace A1 : ((Z18x2.setCell ⟨Z18x1.heap.size, 0, none⟩ (.int .i64 tl)).setCell ⟨Z18x1.heap.size, 1, none⟩ (.int .i64 th)).cell? ⟨Z18x1.heap.size, 1, none⟩ = some (.int .i64 th) := by simp [go_sem, A1]
                  replace nD : gD < ((Z18x2.setCell ⟨Z18x1.heap.size, 0, none⟩ (.int .i64 tl)).setCell ⟨Z18x1.heap.size, 1, none⟩ (.int .i64 th)).heap.size := by simpa [World.setCell] using nD
                  replace nA : Z18x1.heap.size < ((Z18x2.setCell ⟨Z18x1.heap.size, 0, none⟩ (.int .i64 tl)).setCell ⟨Z18x1.heap.size, 1, none⟩ (.int .i64 th)).heap.size := by simpa [World.setCell] using nA
                  replace hL := hL.setCell (p := ⟨Z18x1.heap.size, 0, none⟩) (by show Wy.heap.size ≤ Z18x1.heap.size; omega) (.int .i64 tl)
                  replace hL := hL.setCell (p := ⟨Z18x1.heap.size, 1, none⟩) (by show Wy.heap.size ≤ Z18x1.heap.size; omega) (.int .i64 th)
                  refine hK.out _ _ ⟨D0, D1, D2, D3, D4, D5, D6, D7, D8, trivial⟩ (fun hHeld => ?_)
                  clear hK K
                  generalize ((Z18x2.setCell ⟨Z18x1.heap.size, 0, none⟩ (.int .i64 tl)).setCell ⟨Z18x1.heap.size, 1, none⟩ (.int .i64 th)) = Z18x3 at *
                  try simp only [Act.put, List.setIfInBounds_toArray, List.set_cons_zero, List.set_cons_succ]
                  refine wpAnyH_done (by kernel_rfl) ?_ _
                  have hge : Wy.heap.size ≤ Z18x1.heap.size := by omega
                  clear hHeld
                  generalize Z18x1.heap.size = gA at *
                  exact key gA Z18x3 ⟨nA, hge, A0, A1, hL⟩
                · go_simp
                  have hb := (Below.refl wd18.heap.size wd18).alloc (Nat.le_refl _) (Obj.cells #[.int .i64 0, .int .i64 0] 31)
                  have szZ18x4 := hL.size
                  have ord4nD := nD
                  replace D0 := cell_next hb nD D0
                  replace D1 := cell_next hb nD D1
                  replace D2 := cell_next hb nD D2
                  replace D3 := cell_next hb nD D3
                  replace D4 := cell_next hb nD D4
                  replace D5 := cell_next hb nD D5
                  replace D6 := cell_next hb nD D6
                  replace D7 := cell_next hb nD D7
                  replace D8 := cell_next hb nD D8
                  replace nD := Nat.lt_of_lt_of_le nD hb.size
                  replace hL := hL.trans (hb.mono (Nat.le_trans hBW hL.size))
                  have Af0 : (wd18.alloc (Obj.cells #[.int .i64 0, .int .i64 0] 31)).frozen? ⟨wd18.heap.size, 0, none⟩ = false := by simp [go_sem]
                  have Af1 : (wd18.alloc (Obj.cells #[.int .i64 0, .int .i64 0] 31)).frozen? ⟨wd18.heap.size, 1, none⟩ = false := by simp [go_sem]
                  have A0 : (wd18.alloc (Obj.cells #[.int .i64 0, .int .i64 0] 31)).cell? ⟨wd18.heap.size, 0, none⟩ = some (.int .i64 0) := cell_new _ _ _ 0
                  have A1 : (wd18.alloc (Obj.cells #[.int .i64 0, .int .i64 0] 31)).cell? ⟨wd18.heap.size, 1, none⟩ = some (.int .i64 0) := cell_new _ _ _ 1
                  have nA : wd18.heap.size < (wd18.alloc (Obj.cells #[.int .i64 0, .int .i64 0] 31)).heap.size := by simp
                  refine hK.out _ _ ⟨D0, D1, D2, D3, D4, D5, D6, D7, D8, trivial⟩ (fun hHeld => ?_)
                  clear hK K hb
                  generalize wd18.alloc (Obj.cells #[.int .i64 0, .int .i64 0] 31) = Z18x4 at *
                  try simp only [Act.put, List.setIfInBounds_toArray, List.set_cons_zero, List.set_cons_succ]
                  refine wpAnyH_ready (rs := [11]) (by kernel_rfl) (by simp) ?_
                  refine AllReadyH.cons rfl (fun K hK => ?_) AllReadyH.nil
                  go_simp
                  refine (CTe.out _).mono ?_
                  rintro e Z18x5 ⟨rfl, hb⟩
                  replace D0 := cell_next hb nD D0
                  replace D1 := cell_next hb nD D1
                  replace D2 := cell_next hb nD D2
                  replace D3 := cell_next hb nD D3
                  replace D4 := cell_next hb nD D4
                  replace D5 := cell_next hb nD D5
                  replace D6 := cell_next hb nD D6
                  replace D7 := cell_next hb nD D7
                  replace D8 := cell_next hb nD D8
                  replace Af0 := frozen_next hb nA Af0
                  replace Af1 := frozen_next hb nA Af1
                  replace A0 := cell_next hb nA A0
                  replace A1 := cell_next hb nA A1
                  replace nD := Nat.lt_of_lt_of_le nD hb.size
                  replace nA := Nat.lt_of_lt_of_le nA hb.size
                  replace hL := hL.trans (hb.mono (Nat.le_trans hBW hL.size))
                  refine hK.out _ _ ⟨D0, D1, D2, D3, D4, D5, D6, D7, D8, trivial⟩ (fun hHeld => ?_)
                  clear hK K hb
                  try simp only [Act.put, List.setIfInBounds_toArray, List.set_cons_zero, List.set_cons_succ]
                  refine take_slot (i := 13) (d := 16) (v := ?_) rfl rfl (by kernel_rfl) (by kernel_rfl) (by kernel_rfl) (fun _ _ _ h => h) (Or.inl ⟨by rfl, ?_⟩) (by assumption) ?_
                  rotate_left 1
                  focus (intro wS hSw; (try dsimp only at hSw); go_simp; try with_reducible rfl)
                  try simp only [List.setIfInBounds_toArray, List.set_cons_zero, List.set_cons_succ]
                  refine wpAnyH_ready (rs := [14]) (by kernel_rfl) (by simp) ?_
                  refine AllReadyH.cons rfl (fun K hK => ?_) AllReadyH.nil
                  go_simp
                  replace D0 : ((Z18x5.setCell ⟨wd18.heap.size, 0, none⟩ (.int .i64 tl)).setCell ⟨wd18.heap.size, 1, none⟩ (.int .i64 th)).cell? ⟨gD, oD + k * 9, none⟩ = some (.int .u8 dd.what) := ((World.cell?_setCell_other _ _ _ _ (by intro e; injection e with e1 e2; omega)).trans ((World.cell?_setCell_other _ _ _ _ (by intro e; injection e with e1 e2; omega)).trans D0))
                  replace D1 : ((Z18x5.setCell ⟨wd18.heap.size, 0, none⟩ (.int .i64 tl)).setCell ⟨wd18.heap.size, 1, none⟩ (.int .i64 th)).cell? ⟨gD, oD + k * 9 + 1, none⟩ = some (.int .u8 dd.tank) := ((World.cell?_setCell_other _ _ _ _ (by intro e; injection e with e1 e2; omega)).trans ((World.cell?_setCell_other _ _ _ _ (by intro e; injection e with e1 e2; omega)).trans D1))
                  replace D2 : ((Z18x5.setCell ⟨wd18.heap.size, 0, none⟩ (.int .i64 tl)).setCell ⟨wd18.heap.size, 1, none⟩ (.int .i64 th)).cell? ⟨gD, oD + k * 9 + 2, none⟩ = some (.int .u8 dd.un) := ((World.cell?_setCell_other _ _ _ _ (by intro e; injection e with e1 e2; omega)).trans ((World.cell?_setCell_other _ _ _ _ (by intro e; injection e with e1 e2; omega)).trans D2))
                  replace D3 : ((Z18x5.setCell ⟨wd18.heap.size, 0, none⟩ (.int .i64 tl)).setCell ⟨wd18.heap.size, 1, none⟩ (.int .i64 th)).cell? ⟨gD, oD + k * 9 + 3, none⟩ = some (.int .u16 dd.wa) := ((World.cell?_setCell_other _ _ _ _ (by intro e; injection e with e1 e2; omega)).trans ((World.cell?_setCell_other _ _ _ _ (by intro e; injection e with e1 e2; omega)).trans D3))
                  replace D4 : ((Z18x5.setCell ⟨wd18.heap.size, 0, none⟩ (.int .i64 tl)).setCell ⟨wd18.heap.size, 1, none⟩ (.int .i64 th)).cell? ⟨gD, oD + k * 9 + 4, none⟩ = some (.int .u16 dd.su) := ((World.cell?_setCell_other _ _ _ _ (by intro e; injection e with e1 e2; omega)).trans ((World.cell?_setCell_other _ _ _ _ (by intro e; injection e with e1 e2; omega)).trans D4))
                  replace D5 : ((Z18x5.setCell ⟨wd18.heap.size, 0, none⟩ (.int .i64 tl)).setCell ⟨wd18.heap.size, 1, none⟩ (.int .i64 th)).cell? ⟨gD, oD + k * 9 + 5, none⟩ = some (.int .u8 dd.l0) := ((World.cell?_setCell_other _ _ _ _ (by intro e; injection e with e1 e2; omega)).trans ((World.cell?_setCell_other _ _ _ _ (by intro e; injection e with e1 e2; omega)).trans D5))
                  replace D6 : ((Z18x5.setCell ⟨wd18.heap.size, 0, none⟩ (.int .i64 tl)).setCell ⟨wd18.heap.size, 1, none⟩ (.int .i64 th)).cell? ⟨gD, oD + k * 9 + 6, none⟩ = some (.int .u8 dd.l1) := ((World.cell?_setCell_other _ _ _ _ (by intro e; injection e with e1 e2; omega)).trans ((World.cell?_setCell_other _ _ _ _ (by intro e; injection e with e1 e2; omega)).trans D6))
                  replace D7 : ((Z18x5.setCell ⟨wd18.heap.size, 0, none⟩ (.int .i64 tl)).setCell ⟨wd18.heap.size, 1, none⟩ (.int .i64 th)).cell? ⟨gD, oD + k * 9 + 7, none⟩ = some (.int .u8 dd.t0) := ((World.cell?_setCell_other _ _ _ _ (by intro e; injection e with e1 e2; omega)).trans ((World.cell?_setCell_other _ _ _ _ (by intro e; injection e with e1 e2; omega)).trans D7))
                  replace D8 : ((Z18x5.setCell ⟨wd18.heap.size, 0, none⟩ (.int .i64 tl)).setCell ⟨wd18.heap.size, 1, none⟩ (.int .i64 th)).cell? ⟨gD, oD + k * 9 + 8, none⟩ = some (.int .u8 dd.t1) := ((World.cell?_setCell_other _ _ _ _ (by intro e; injection e with e1 e2; omega)).trans ((World.cell?_setCell_other _ _ _ _ (by intro e; injection e with e1 e2; omega)).trans D8))
                  replace Af0 : ((Z18x5.setCell ⟨wd18.heap.size, 0, none⟩ (.int .i64 tl)).setCell ⟨wd18.heap.size, 1, none⟩ (.int .i64 th)).frozen? ⟨wd18.heap.size, 0, none⟩ = false := by simp [go_sem, Af0]
                  replace Af1 : ((Z18x5.setCell ⟨wd18.heap.size, 0, none⟩ (.int .i64 tl)).setCell ⟨wd18.heap.size, 1, none⟩ (.int .i64 th)).frozen? ⟨wd18.heap.size, 1, none⟩ = false := by simp [go_sem, Af1]
                  replace A0 : ((Z18x5.setCell ⟨wd18.heap.size, 0, none⟩ (.int .i64 tl)).setCell ⟨wd18.heap.size, 1, none⟩ (.int .i64 th)).cell? ⟨wd18.heap.size, 0, none⟩ = some (.int .i64 tl) := by simp [go_sem, A0]
                  replace A1 : ((Z18x5.setCell ⟨wd18.heap.size, 0, none⟩ (.int .i64 tl)).setCell ⟨wd18.heap.size, 1, none⟩ (.int .i64 th)).cell? ⟨wd18.heap.size, 1, none⟩ = some (.int .i64 th) := by simp [go_sem, A1]
                  replace nD : gD < ((Z18x5.setCell ⟨wd18.heap.size, 0, none⟩ (.int .i64 tl)).setCell ⟨wd18.heap.size, 1, none⟩ (.int .i64 th)).heap.size := by simpa [World.setCell] using nD
                  replace nA : wd18.heap.size < ((Z18x5.setCell ⟨wd18.heap.size, 0, none⟩ (.int .i64 tl)).setCell ⟨wd18.heap.size, 1, none⟩ (.int .i64 th)).heap.size := by simpa [World.setCell] using nA
                  replace hL := hL.setCell (p := ⟨wd18.heap.size, 0, none⟩) (by show Wy.heap.size ≤ wd18.heap.size; omega) (.int .i64 tl)
                  replace hL := hL.setCell (p := ⟨wd18.heap.size, 1, none⟩) (by show Wy.heap.size ≤ wd18.heap.size; omega) (.int .i64 th)
                  refine hK.out _ _ ⟨D0, D1, D2, D3, D4, D5, D6, D7, D8, trivial⟩ (fun hHeld => ?_)
                  clear hK K
                  generalize ((Z18x5.setCell ⟨wd18.heap.size, 0, none⟩ (.int .i64 tl)).setCell ⟨wd18.heap.size, 1, none⟩ (.int .i64 th)) = Z18x6 at *
                  try simp only [Act.put, List.setIfInBounds_toArray, List.set_cons_zero, List.set_cons_succ]
                  refine wpAnyH_done (by kernel_rfl) ?_ _
                  have hge : Wy.heap.size ≤ wd18.heap.size := by omega
                  clear hHeld
                  generalize wd18.heap.size = gA at *
                  exact key gA Z18x6 ⟨nA, hge, A0, A1, hL⟩
              case key =>
                intro gA Wa ⟨nA, hgA, A0, A1, hL⟩
                have hgYA : gY < gA := by omega
                replace Y0 := cell_next hL nY Y0
                replace Y1 := cell_next hL nY Y1
                replace Y2 := cell_next hL nY Y2
                replace Y3 := cell_next hL nY Y3
                replace nY := Nat.lt_of_lt_of_le nY hL.size
                replace HS := Lib.hid (HS.out.below hL)
                replace H7 := Lib.hid (own_below H7.out hL)
                replace H9 := Lib.hid (own_below H9.out hL)
                replace hBc := hBc.trans (hL.mono (by have := hBc.size; omega))
                clear hL hgA hBW CTe tmu wu8 D0 D1 D2 D3 D4 D5 D6 D7 D8 nD hnn hun
                have hpt := pk_in ti2 htb.te
                have CPt := Lib.hid (pick_any tl th tr.te (by omega) htb.te)
                generalize pk tl th tr.te = pt at *
                obtain ⟨⟨ga, gb⟩, hgv⟩ : ∃ q, valV kRows pt = q := ⟨_, rfl⟩
                have CVa := Lib.hid (fun (v : Value) => value_k v pt (by omega) (by omega))
                rw [hgv] at CVa
                dsimp only at CVa
                obtain ⟨⟨gl, gh⟩, hgR⟩ : ∃ q, vlR kRows tl th = q := ⟨_, rfl⟩
                have hin := kR_in ti1 hpt.1 hpt.2 ti3
                have hgb := (kR_is ti1 ti2 ti3).2
                have hvb := kv_bd (show 0 ≤ pt by omega) (show pt ≤ 200 by omega)
                rw [hgv, hgR] at hin
                rw [hgR] at hgb
                rw [hgv] at hvb
                dsimp only at hin hgb hvb
                obtain ⟨hg1, hg2, hg3, _, _⟩ := hgb
                clear hgv hpt
                have hff := field_rules
                go_wp2_with fail
                have hBW : Wa.heap.size ≤ Wa.heap.size := Nat.le_refl _
                apply suffW (R := fun gG (vr : Value) W => gG < W.heap.size ∧ Wa.heap.size ≤ gG ∧ W.cell? ⟨gG, 0, none⟩ = some (.int .i64 ga) ∧ W.cell? ⟨gG, 1, none⟩ = some (.int .i64 gb) ∧ Below Wa.heap.size Wa W)
                case main =>
                  intro key
                  refine wp_region_held_drew (S := fun w' => w'.cell? ⟨gA, 0, none⟩ = some (.int .i64 tl) ∧ w'.cell? ⟨gA, 1, none⟩ = some (.int .i64 th) ∧ w'.cell? ⟨gY, 1, none⟩ = some (.int .u8 tr.te) ∧ True) (by kernel_rfl) ?_ (fun hHeld => ?_)
                  focus (exact ⟨A0, A1, Y1, trivial⟩)
                  have hL : Below Wa.heap.size Wa Wa.drew := Below.drew (Below.refl _ _)
                  replace A0 : Wa.drew.cell? ⟨gA, 0, none⟩ = some (.int .i64 tl) := A0
                  replace A1 : Wa.drew.cell? ⟨gA, 1, none⟩ = some (.int .i64 th) := A1
                  replace Y1 : Wa.drew.cell? ⟨gY, 1, none⟩ = some (.int .u8 tr.te) := Y1
                  replace nA : gA < Wa.drew.heap.size := nA
                  replace nY : gY < Wa.drew.heap.size := nY
                  generalize hWd : Wa.drew = wd19 at hHeld hL A0 A1 Y1 nA nY  ⊢
                  clear hWd
                  refine take_slot (i := 2) (d := 138) (v := ?_) rfl rfl (by kernel_rfl) (by kernel_rfl) (by kernel_rfl) (fun _ _ _ h => h) (Or.inl ⟨by rfl, ?_⟩) (by assumption) ?_
                  rotate_left 1
                  focus (intro wS hSw; (try dsimp only at hSw); go_simp; try with_reducible rfl)
                  try simp only [List.setIfInBounds_toArray, List.set_cons_zero, List.set_cons_succ]
                  refine take_slot (i := 3) (d := 139) (v := ?_) rfl rfl (by kernel_rfl) (by kernel_rfl) (by kernel_rfl) (fun _ _ _ h => h) (Or.inl ⟨by rfl, ?_⟩) (by assumption) ?_
                  rotate_left 1
                  focus (intro wS hSw; (try dsimp only at hSw); go_simp; try with_reducible rfl)
                  try simp only [List.setIfInBounds_toArray, List.set_cons_zero, List.set_cons_succ]
                  refine take_slot (i := 4) (d := 140) (v := ?_) rfl rfl (by kernel_rfl) (by kernel_rfl) (by kernel_rfl) (fun _ _ _ h => h) (Or.inl ⟨by rfl, ?_⟩) (by assumption) ?_
                  rotate_left 1
                  focus (intro wS hSw; (try dsimp only at hSw); go_simp; try with_reducible rfl)
                  try simp only [List.setIfInBounds_toArray, List.set_cons_zero, List.set_cons_succ]
                  refine wpAnyH_ready (rs := [0, 10]) (by kernel_rfl) (by simp) ?_
                  refine AllReadyH.cons rfl (fun K hK => ?_) (AllReadyH.cons rfl (fun K hK => ?_) AllReadyH.nil)
                  · go_simp
                    refine (rules_any _).mono ?_
                    rintro e Z19x1 ⟨vr, rfl, hvr, hb⟩
                    replace A0 := cell_next hb nA A0
                    replace A1 := cell_next hb nA A1
                    replace Y1 := cell_next hb nY Y1
                    replace nA := Nat.lt_of_lt_of_le nA hb.size
                    replace nY := Nat.lt_of_lt_of_le nY hb.size
                    replace hL := hL.trans (hb.mono (Nat.le_trans hBW hL.size))
                    try (replace hvr := (SetAt.below hvr hb (Nat.le_refl _)).mono hb.size)
                    refine hK.out _ _ ⟨A0, A1, Y1, trivial⟩ (fun hHeld => ?_)
                    clear hK K hb
                    try simp only [Act.put, List.setIfInBounds_toArray, List.set_cons_zero, List.set_cons_succ]
                    refine take_slot (i := 1) (d := 137) (v := ?_) rfl rfl (by kernel_rfl) (by kernel_rfl) (by kernel_rfl) (fun _ _ _ h => h) (Or.inl ⟨by rfl, ?_⟩) (by assumption) ?_
                    rotate_left 1
                    focus (intro wS hSw; (try dsimp only at hSw); go_simp; try with_reducible rfl)
                    try simp only [List.setIfInBounds_toArray, List.set_cons_zero, List.set_cons_succ]
                    refine wpAnyH_ready (rs := [5, 10]) (by kernel_rfl) (by simp) ?_
                    refine AllReadyH.cons rfl (fun K hK => ?_) (AllReadyH.cons rfl (fun K hK => ?_) AllReadyH.nil)
                    · go_simp
                      refine (CPt.out _).mono ?_
                      rintro e Z19x2 ⟨rfl, hb⟩
                      replace A0 := cell_next hb nA A0
                      replace A1 := cell_next hb nA A1
                      replace Y1 := cell_next hb nY Y1
                      replace nA := Nat.lt_of_lt_of_le nA hb.size
                      replace nY := Nat.lt_of_lt_of_le nY hb.size
                      replace hL := hL.trans (hb.mono (Nat.le_trans hBW hL.size))
                      try (replace hvr := (SetAt.below hvr hb (Nat.le_refl _)).mono hb.size)
                      refine hK.out _ _ ⟨A0, A1, Y1, trivial⟩ (fun hHeld => ?_)
                      clear hK K hb
                      try simp only [Act.put, List.setIfInBounds_toArray, List.set_cons_zero, List.set_cons_succ]
                      refine wpAnyH_ready (rs := [6, 10]) (by kernel_rfl) (by simp) ?_
                      refine AllReadyH.cons rfl (fun K hK => ?_) (AllReadyH.cons rfl (fun K hK => ?_) AllReadyH.nil)
                      · go_simp
                        refine (CVa.out _ _ hvr).mono ?_
                        rintro e Z19x3 ⟨rfl, hb⟩
                        replace A0 := cell_next hb nA A0
                        replace A1 := cell_next hb nA A1
                        replace Y1 := cell_next hb nY Y1
                        replace nA := Nat.lt_of_lt_of_le nA hb.size
                        replace nY := Nat.lt_of_lt_of_le nY hb.size
                        replace hL := hL.trans (hb.mono (Nat.le_trans hBW hL.size))
                        try (replace hvr := (SetAt.below hvr hb (Nat.le_refl _)).mono hb.size)
                        refine hK.out _ _ ⟨A0, A1, Y1, trivial⟩ (fun hHeld => ?_)
                        clear hK K hb
                        try simp only [Act.put, List.setIfInBounds_toArray, List.set_cons_zero, List.set_cons_succ]
                        refine take_slot (i := 7) (d := 135) (v := ?_) rfl rfl (by kernel_rfl) (by kernel_rfl) (by kernel_rfl) (fun _ _ _ h => h) (Or.inl ⟨by rfl, ?_⟩) (by assumption) ?_
                        rotate_left 1
                        focus (intro wS hSw; (try dsimp only at hSw); go_simp; try with_reducible rfl)
                        try simp only [List.setIfInBounds_toArray, List.set_cons_zero, List.set_cons_succ]
                        refine take_slot (i := 8) (d := 143) (v := ?_) rfl rfl (by kernel_rfl) (by kernel_rfl) (by kernel_rfl) (fun _ _ _ h => h) (Or.inl ⟨by rfl, ?_⟩) (by assumption) ?_
                        rotate_left 1
                        focus (intro wS hSw; (try dsimp only at hSw); go_simp; try with_reducible rfl)
                        try simp only [List.setIfInBounds_toArray, List.set_cons_zero, List.set_cons_succ]
                        refine take_slot (i := 9) (d := 144) (v := ?_) rfl rfl (by kernel_rfl) (by kernel_rfl) (by kernel_rfl) (fun _ _ _ h => h) (Or.inl ⟨by rfl, ?_⟩) (by assumption) ?_
                        rotate_left 1
                        focus (intro wS hSw; (try dsimp only at hSw); go_simp; try with_reducible rfl)
                        try simp only [List.setIfInBounds_toArray, List.set_cons_zero, List.set_cons_succ]
                        refine wpAnyH_ready (rs := [10]) (by kernel_rfl) (by simp) ?_
                        refine AllReadyH.cons rfl (fun K hK => ?_) AllReadyH.nil
                        go_simp
                        have hb := (Below.refl Z19x3.heap.size Z19x3).alloc (Nat.le_refl _) (Obj.cells #[.int .i64 0, .int .i64 0] 31)
                        have szZ19x4 := hL.size
                        have ord4nA := nA
                        have ord4nY := nY
                        replace A0 := cell_next hb nA A0
                        replace A1 := cell_next hb nA A1
                        replace Y1 := cell_next hb nY Y1
                        replace nA := Nat.lt_of_lt_of_le nA hb.size
                        replace nY := Nat.lt_of_lt_of_le nY hb.size
                        replace hL := hL.trans (hb.mono (Nat.le_trans hBW hL.size))
                        try (replace hvr := (SetAt.below hvr hb (Nat.le_refl _)).mono hb.size)
                        have Gf0 : (Z19x3.alloc (Obj.cells #[.int .i64 0, .int .i64 0] 31)).frozen? ⟨Z19x3.heap.size, 0, none⟩ = false := by simp [go_sem]
                        have Gf1 : (Z19x3.alloc (Obj.cells #[.int .i64 0, .int .i64 0] 31)).frozen? ⟨Z19x3.heap.size, 1, none⟩ = false := by simp [go_sem]
                        have G0 : (Z19x3.alloc (Obj.cells #[.int .i64 0, .int .i64 0] 31)).cell? ⟨Z19x3.heap.size, 0, none⟩ = some (.int .i64 0) := cell_new _ _ _ 0
                        have G1 : (Z19x3.alloc (Obj.cells #[.int .i64 0, .int .i64 0] 31)).cell? ⟨Z19x3.heap.size, 1, none⟩ = some (.int .i64 0) := cell_new _ _ _ 1
                        have nG : Z19x3.heap.size < (Z19x3.alloc (Obj.cells #[.int .i64 0, .int .i64 0] 31)).heap.size := by simp
                        refine hK.out _ _ ⟨A0, A1, Y1, trivial⟩ (fun hHeld => ?_)
                        clear hK K hb
                        generalize Z19x3.alloc (Obj.cells #[.int .i64 0, .int .i64 0] 31) = Z19x4 at *
                        try simp only [Act.put, List.setIfInBounds_toArray, List.set_cons_zero, List.set_cons_succ]
                        refine wpAnyH_ready (rs := [11]) (by kernel_rfl) (by simp) ?_
                        refine AllReadyH.cons rfl (fun K hK => ?_) AllReadyH.nil
                        go_simp
                        replace A0 : ((Z19x4.setCell ⟨Z19x3.heap.size, 0, none⟩ (.int .i64 ga)).setCell ⟨Z19x3.heap.size, 1, none⟩ (.int .i64 gb)).cell? ⟨gA, 0, none⟩ = some (.int .i64 tl) := ((World.cell?_setCell_other _ _ _ _ (by intro e; injection e with e1 e2; omega)).trans ((World.cell?_setCell_other _ _ _ _ (by intro e; injection e with e1 e2; omega)).trans A0))
                        replace A1 : ((Z19x4.setCell ⟨Z19x3.heap.size, 0, none⟩ (.int .i64 ga)).setCell ⟨Z19x3.heap.size, 1, none⟩ (.int .i64 gb)).cell? ⟨gA, 1, none⟩ = some (.int .i64 th) := ((World.cell?_setCell_other _ _ _ _ (by intro e; injection e with e1 e2; omega)).trans ((World.cell?_setCell_other _ _ _ _ (by intro e; injection e with e1 e2; omega)).trans A1))
                        replace Y1 : ((Z19x4.setCell ⟨Z19x3.heap.size, 0, none⟩ (.int .i64 ga)).setCell ⟨Z19x3.heap.size, 1, none⟩ (.int .i64 gb)).cell? ⟨gY, 1, none⟩ = some (.int .u8 tr.te) := ((World.cell?_setCell_other _ _ _ _ (by intro e; injection e with e1 e2; omega)).trans ((World.cell?_setCell_other _ _ _ _ (by intro e; injection e with e1 e2; omega)).trans Y1))
                        replace Gf0 : ((Z19x4.setCell ⟨Z19x3.heap.size, 0, none⟩ (.int .i64 ga)).setCell ⟨Z19x3.heap.size, 1, none⟩ (.int .i64 gb)).frozen? ⟨Z19x3.heap.size, 0, none⟩ = false := by simp [go_sem, Gf0]
                        replace Gf1 : ((Z19x4.setCell ⟨Z19x3.heap.size, 0, none⟩ (.int .i64 ga)).setCell ⟨Z19x3.heap.size, 1, none⟩ (.int .i64 gb)).frozen? ⟨Z19x3.heap.size, 1, none⟩ = false := by simp [go_sem, Gf1]
                        replace G0 : ((Z19x4.setCell ⟨Z19x3.heap.size, 0, none⟩ (.int .i64 ga)).setCell ⟨Z19x3.heap.size, 1, none⟩ (.int .i64 gb)).cell? ⟨Z19x3.heap.size, 0, none⟩ = some (.int .i64 ga) := by simp [go_sem, G0]
                        replace G1 : ((Z19x4.setCell ⟨Z19x3.heap.size, 0, none⟩ (.int .i64 ga)).setCell ⟨Z19x3.heap.size, 1, none⟩ (.int .i64 gb)).cell? ⟨Z19x3.heap.size, 1, none⟩ = some (.int .i64 gb) := by simp [go_sem, G1]
                        replace nA : gA < ((Z19x4.setCell ⟨Z19x3.heap.size, 0, none⟩ (.int .i64 ga)).setCell ⟨Z19x3.heap.size, 1, none⟩ (.int .i64 gb)).heap.size := by simpa [World.setCell] using nA
                        replace nY : gY < ((Z19x4.setCell ⟨Z19x3.heap.size, 0, none⟩ (.int .i64 ga)).setCell ⟨Z19x3.heap.size, 1, none⟩ (.int .i64 gb)).heap.size := by simpa [World.setCell] using nY
                        replace nG : Z19x3.heap.size < ((Z19x4.setCell ⟨Z19x3.heap.size, 0, none⟩ (.int .i64 ga)).setCell ⟨Z19x3.heap.size, 1, none⟩ (.int .i64 gb)).heap.size := by simpa [World.setCell] using nG
                        replace hL := hL.setCell (p := ⟨Z19x3.heap.size, 0, none⟩) (by show Wa.heap.size ≤ Z19x3.heap.size; omega) (.int .i64 ga)
                        replace hL := hL.setCell (p := ⟨Z19x3.heap.size, 1, none⟩) (by show Wa.heap.size ≤ Z19x3.heap.size; omega) (.int .i64 gb)
                        refine hK.out _ _ ⟨A0, A1, Y1, trivial⟩ (fun hHeld => ?_)
                        clear hK K
                        generalize ((Z19x4.setCell ⟨Z19x3.heap.size, 0, none⟩ (.int .i64 ga)).setCell ⟨Z19x3.heap.size, 1, none⟩ (.int .i64 gb)) = Z19x5 at *
                        try simp only [Act.put, List.setIfInBounds_toArray, List.set_cons_zero, List.set_cons_succ]
                        refine take_slot (i := 12) (d := 19) (v := ?_) rfl rfl (by kernel_rfl) (by kernel_rfl) (by kernel_rfl) (fun _ _ _ h => h) (Or.inl ⟨by rfl, ?_⟩) (by assumption) ?_
                        rotate_left 1
                        focus (intro wS hSw; (try dsimp only at hSw); go_simp; try with_reducible rfl)
                        try simp only [List.setIfInBounds_toArray, List.set_cons_zero, List.set_cons_succ]
                        refine wpAnyH_done (by kernel_rfl) ?_ _
                        have hge : Wa.heap.size ≤ Z19x3.heap.size := by omega
                        clear hHeld
                        generalize Z19x3.heap.size = gG at *
                        exact key gG vr Z19x5 ⟨nG, hge, G0, G1, hL⟩
                      · go_simp
                        have hb := (Below.refl Z19x2.heap.size Z19x2).alloc (Nat.le_refl _) (Obj.cells #[.int .i64 0, .int .i64 0] 31)
                        have szZ19x6 := hL.size
                        have ord6nA := nA
                        have ord6nY := nY
                        replace A0 := cell_next hb nA A0
                        replace A1 := cell_next hb nA A1
                        replace Y1 := cell_next hb nY Y1
                        replace nA := Nat.lt_of_lt_of_le nA hb.size
                        replace nY := Nat.lt_of_lt_of_le nY hb.size
                        replace hL := hL.trans (hb.mono (Nat.le_trans hBW hL.size))
                        try (replace hvr := (SetAt.below hvr hb (Nat.le_refl _)).mono hb.size)
                        have Gf0 : (Z19x2.alloc (Obj.cells #[.int .i64 0, .int .i64 0] 31)).frozen? ⟨Z19x2.heap.size, 0, none⟩ = false := by simp [go_sem]
                        have Gf1 : (Z19x2.alloc (Obj.cells #[.int .i64 0, .int .i64 0] 31)).frozen? ⟨Z19x2.heap.size, 1, none⟩ = false := by simp [go_sem]
                        have G0 : (Z19x2.alloc (Obj.cells #[.int .i64 0, .int .i64 0] 31)).cell? ⟨Z19x2.heap.size, 0, none⟩ = some (.int .i64 0) := cell_new _ _ _ 0
                        have G1 : (Z19x2.alloc (Obj.cells #[.int .i64 0, .int .i64 0] 31)).cell? ⟨Z19x2.heap.size, 1, none⟩ = some (.int .i64 0) := cell_new _ _ _ 1
                        have nG : Z19x2.heap.size < (Z19x2.alloc (Obj.cells #[.int .i64 0, .int .i64 0] 31)).heap.size := by simp
                        refine hK.out _ _ ⟨A0, A1, Y1, trivial⟩ (fun hHeld => ?_)
                        clear hK K hb
                        generalize Z19x2.alloc (Obj.cells #[.int .i64 0, .int .i64 0] 31) = Z19x6 at *
                        try simp only [Act.put, List.setIfInBounds_toArray, List.set_cons_zero, List.set_cons_succ]
                        refine wpAnyH_ready (rs := [6]) (by kernel_rfl) (by simp) ?_
                        refine AllReadyH.cons rfl (fun K hK => ?_) AllReadyH.nil
                        go_simp
                        refine (CVa.out _ _ hvr).mono ?_
                        rintro e Z19x7 ⟨rfl, hb⟩
                        replace A0 := cell_next hb nA A0
                        replace A1 := cell_next hb nA A1
                        replace Y1 := cell_next hb nY Y1
                        replace Gf0 := frozen_next hb nG Gf0
                        replace Gf1 := frozen_next hb nG Gf1
                        replace G0 := cell_next hb nG G0
                        replace G1 := cell_next hb nG G1
                        replace nA := Nat.lt_of_lt_of_le nA hb.size
                        replace nY := Nat.lt_of_lt_of_le nY hb.size
                        replace nG := Nat.lt_of_lt_of_le nG hb.size
                        replace hL := hL.trans (hb.mono (Nat.le_trans hBW hL.size))
                        try (replace hvr := (SetAt.below hvr hb (Nat.le_refl _)).mono hb.size)
                        refine hK.out _ _ ⟨A0, A1, Y1, trivial⟩ (fun hHeld => ?_)
                        clear hK K hb
                        try simp only [Act.put, List.setIfInBounds_toArray, List.set_cons_zero, List.set_cons_succ]
                        refine take_slot (i := 7) (d := 135) (v := ?_) rfl rfl (by kernel_rfl) (by kernel_rfl) (by kernel_rfl) (fun _ _ _ h => h) (Or.inl ⟨by rfl, ?_⟩) (by assumption) ?_
                        rotate_left 1
                        focus (intro wS hSw; (try dsimp only at hSw); go_simp; try with_reducible rfl)
                        try simp only [List.setIfInBounds_toArray, List.set_cons_zero, List.set_cons_succ]
                        refine take_slot (i := 8) (d := 143) (v := ?_) rfl rfl (by kernel_rfl) (by kernel_rfl) (by kernel_rfl) (fun _ _ _ h => h) (Or.inl ⟨by rfl, ?_⟩) (by assumption) ?_
                        rotate_left 1
                        focus (intro wS hSw; (try dsimp only at hSw); go_simp; try with_reducible rfl)
                        try simp only [List.setIfInBounds_toArray, List.set_cons_zero, List.set_cons_succ]
                        refine take_slot (i := 9) (d := 144) (v := ?_) rfl rfl (by kernel_rfl) (by kernel_rfl) (by kernel_rfl) (fun _ _ _ h => h) (Or.inl ⟨by rfl, ?_⟩) (by assumption) ?_
                        rotate_left 1
                        focus (intro wS hSw; (try dsimp only at hSw); go_simp; try with_reducible rfl)
                        try simp only [List.setIfInBounds_toArray, List.set_cons_zero, List.set_cons_succ]
                        refine wpAnyH_ready (rs := [11]) (by kernel_rfl) (by simp) ?_
                        refine AllReadyH.cons rfl (fun K hK => ?_) AllReadyH.nil
                        go_simp
                        replace A0 : ((Z19x7.setCell ⟨Z19x2.heap.size, 0, none⟩ (.int .i64 ga)).setCell ⟨Z19x2.heap.size, 1, none⟩ (.int .i64 gb)).cell? ⟨gA, 0, none⟩ = some (.int .i64 tl) := ((World.cell?_setCell_other _ _ _ _ (by intro e; injection e with e1 e2; omega)).trans ((World.cell?_setCell_other _ _ _ _ (by intro e; injection e with e1 e2; omega)).trans A0))
                        replace A1 : ((Z19x7.setCell ⟨Z19x2.heap.size, 0, none⟩ (.int .i64 ga)).setCell ⟨Z19x2.heap.size, 1, none⟩ (.int .i64 gb)).cell? ⟨gA, 1, none⟩ = some (.int .i64 th) := ((World.cell?_setCell_other _ _ _ _ (by intro e; injection e with e1 e2; omega)).trans ((World.cell?_setCell_other _ _ _ _ (by intro e; injection e with e1 e2; omega)).trans A1))
                        replace Y1 : ((Z19x7.setCell ⟨Z19x2.heap.size, 0, none⟩ (.int .i64 ga)).setCell ⟨Z19x2.heap.size, 1, none⟩ (.int .i64 gb)).cell? ⟨gY, 1, none⟩ = some (.int .u8 tr.te) := ((World.cell?_setCell_other _ _ _ _ (by intro e; injection e with e1 e2; omega)).trans ((World.cell?_setCell_other _ _ _ _ (by intro e; injection e with e1 e2; omega)).trans Y1))
                        replace Gf0 : ((Z19x7.setCell ⟨Z19x2.heap.size, 0, none⟩ (.int .i64 ga)).setCell ⟨Z19x2.heap.size, 1, none⟩ (.int .i64 gb)).frozen? ⟨Z19x2.heap.size, 0, none⟩ = false := by simp [go_sem, Gf0]
                        replace Gf1 : ((Z19x7.setCell ⟨Z19x2.heap.size, 0, none⟩ (.int .i64 ga)).setCell ⟨Z19x2.heap.size, 1, none⟩ (.int .i64 gb)).frozen? ⟨Z19x2.heap.size, 1, none⟩ = false := by simp [go_sem, Gf1]
                        replace G0 : ((Z19x7.setCell ⟨Z19x2.heap.size, 0, none⟩ (.int .i64 ga)).setCell ⟨Z19x2.heap.size, 1, none⟩ (.int .i64 gb)).cell? ⟨Z19x2.heap.size, 0, none⟩ = some (.int .i64 ga) := by simp [go_sem, G0]
                        replace G1 : ((Z19x7.setCell ⟨Z19x2.heap.size, 0, none⟩ (.int .i64 ga)).setCell ⟨Z19x2.heap.size, 1, none⟩ (.int .i64 gb)).cell? ⟨Z19x2.heap.size, 1, none⟩ = some (.int .i64 gb) := by simp [go_sem, G1]
                        replace nA : gA < ((Z19x7.setCell ⟨Z19x2.heap.size, 0, none⟩ (.int .i64 ga)).setCell ⟨Z19x2.heap.size, 1, none⟩ (.int .i64 gb)).heap.size := by simpa [World.setCell] using nA
                        replace nY : gY < ((Z19x7.setCell ⟨Z19x2.heap.size, 0, none⟩ (.int .i64 ga)).setCell ⟨Z19x2.heap.size, 1, none⟩ (.int .i64 gb)).heap.size := by simpa [World.setCell] using nY
                        replace nG : Z19x2.heap.size < ((Z19x7.setCell ⟨Z19x2.heap.size, 0, none⟩ (.int .i64 ga)).setCell ⟨Z19x2.heap.size, 1, none⟩ (.int .i64 gb)).heap.size := by simpa [World.setCell] using nG
                        replace hL := hL.setCell (p := ⟨Z19x2.heap.size, 0, none⟩) (by show Wa.heap.size ≤ Z19x2.heap.size; omega) (.int .i64 ga)
                        replace hL := hL.setCell (p := ⟨Z19x2.heap.size, 1, none⟩) (by show Wa.heap.size ≤ Z19x2.heap.size; omega) (.int .i64 gb)
                        refine hK.out _ _ ⟨A0, A1, Y1, trivial⟩ (fun hHeld => ?_)
                        clear hK K
                        generalize ((Z19x7.setCell ⟨Z19x2.heap.size, 0, none⟩ (.int .i64 ga)).setCell ⟨Z19x2.heap.size, 1, none⟩ (.int .i64 gb)) = Z19x8 at *
                        try simp only [Act.put, List.setIfInBounds_toArray, List.set_cons_zero, List.set_cons_succ]
                        refine take_slot (i := 12) (d := 19) (v := ?_) rfl rfl (by kernel_rfl) (by kernel_rfl) (by kernel_rfl) (fun _ _ _ h => h) (Or.inl ⟨by rfl, ?_⟩) (by assumption) ?_
                        rotate_left 1
                        focus (intro wS hSw; (try dsimp only at hSw); go_simp; try with_reducible rfl)
                        try simp only [List.setIfInBounds_toArray, List.set_cons_zero, List.set_cons_succ]
                        refine wpAnyH_done (by kernel_rfl) ?_ _
                        have hge : Wa.heap.size ≤ Z19x2.heap.size := by omega
                        clear hHeld
                        generalize Z19x2.heap.size = gG at *
                        exact key gG vr Z19x8 ⟨nG, hge, G0, G1, hL⟩
                    · go_simp
                      have hb := (Below.refl Z19x1.heap.size Z19x1).alloc (Nat.le_refl _) (Obj.cells #[.int .i64 0, .int .i64 0] 31)
                      have szZ19x9 := hL.size
                      have ord9nA := nA
                      have ord9nY := nY
                      replace A0 := cell_next hb nA A0
                      replace A1 := cell_next hb nA A1
                      replace Y1 := cell_next hb nY Y1
                      replace nA := Nat.lt_of_lt_of_le nA hb.size
                      replace nY := Nat.lt_of_lt_of_le nY hb.size
                      replace hL := hL.trans (hb.mono (Nat.le_trans hBW hL.size))
                      try (replace hvr := (SetAt.below hvr hb (Nat.le_refl _)).mono hb.size)
                      have Gf0 : (Z19x1.alloc (Obj.cells #[.int .i64 0, .int .i64 0] 31)).frozen? ⟨Z19x1.heap.size, 0, none⟩ = false := by simp [go_sem]
                      have Gf1 : (Z19x1.alloc (Obj.cells #[.int .i64 0, .int .i64 0] 31)).frozen? ⟨Z19x1.heap.size, 1, none⟩ = false := by simp [go_sem]
                      have G0 : (Z19x1.alloc (Obj.cells #[.int .i64 0, .int .i64 0] 31)).cell? ⟨Z19x1.heap.size, 0, none⟩ = some (.int .i64 0) := cell_new _ _ _ 0
                      have G1 : (Z19x1.alloc (Obj.cells #[.int .i64 0, .int .i64 0] 31)).cell? ⟨Z19x1.heap.size, 1, none⟩ = some (.int .i64 0) := cell_new _ _ _ 1
                      have nG : Z19x1.heap.size < (Z19x1.alloc (Obj.cells #[.int .i64 0, .int .i64 0] 31)).heap.size := by simp
                      refine hK.out _ _ ⟨A0, A1, Y1, trivial⟩ (fun hHeld => ?_)
                      clear hK K hb
                      generalize Z19x1.alloc (Obj.cells #[.int .i64 0, .int .i64 0] 31) = Z19x9 at *
                      try simp only [Act.put, List.setIfInBounds_toArray, List.set_cons_zero, List.set_cons_succ]
                      refine wpAnyH_ready (rs := [5]) (by kernel_rfl) (by simp) ?_
                      refine AllReadyH.cons rfl (fun K hK => ?_) AllReadyH.nil
                      go_simp
                      refine (CPt.out _).mono ?_
                      rintro e Z19x10 ⟨rfl, hb⟩
                      replace A0 := cell_next hb nA A0
                      replace A1 := cell_next hb nA A1
                      replace Y1 := cell_next hb nY Y1
                      replace Gf0 := frozen_next hb nG Gf0
                      replace Gf1 := frozen_next hb nG Gf1
                      replace G0 := cell_next hb nG G0
                      replace G1 := cell_next hb nG G1
                      replace nA := Nat.lt_of_lt_of_le nA hb.size
                      replace nY := Nat.lt_of_lt_of_le nY hb.size
                      replace nG := Nat.lt_of_lt_of_le nG hb.size
                      replace hL := hL.trans (hb.mono (Nat.le_trans hBW hL.size))
                      try (replace hvr := (SetAt.below hvr hb (Nat.le_refl _)).mono hb.size)
                      refine hK.out _ _ ⟨A0, A1, Y1, trivial⟩ (fun hHeld => ?_)
                      clear hK K hb
                      try simp only [Act.put, List.setIfInBounds_toArray, List.set_cons_zero, List.set_cons_succ]
                      refine wpAnyH_ready (rs := [6]) (by kernel_rfl) (by simp) ?_
                      refine AllReadyH.cons rfl (fun K hK => ?_) AllReadyH.nil
                      go_simp
                      refine (CVa.out _ _ hvr).mono ?_
                      rintro e Z19x11 ⟨rfl, hb⟩
                      replace A0 := cell_next hb nA A0
                      replace A1 := cell_next hb nA A1
                      replace Y1 := cell_next hb nY Y1
                      replace Gf0 := frozen_next hb nG Gf0
                      replace Gf1 := frozen_next hb nG Gf1
                      replace G0 := cell_next hb nG G0
                      replace G1 := cell_next hb nG G1
                      replace nA := Nat.lt_of_lt_of_le nA hb.size
                      replace nY := Nat.lt_of_lt_of_le nY hb.size
                      replace nG := Nat.lt_of_lt_of_le nG hb.size
                      replace hL := hL.trans (hb.mono (Nat.le_trans hBW hL.size))
                      try (replace hvr := (SetAt.below hvr hb (Nat.le_refl _)).mono hb.size)
                      refine hK.out _ _ ⟨A0, A1, Y1, trivial⟩ (fun hHeld => ?_)
                      clear hK K hb
                      try simp only [Act.put, List.setIfInBounds_toArray, List.set_cons_zero, List.set_cons_succ]
                      refine take_slot (i := 7) (d := 135) (v := ?_) rfl rfl (by kernel_rfl) (by kernel_rfl) (by kernel_rfl) (fun _ _ _ h => h) (Or.inl ⟨by rfl, ?_⟩) (by assumption) ?_
                      rotate_left 1
                      focus (intro wS hSw; (try dsimp only at hSw); go_simp; try with_reducible rfl)
                      try simp only [List.setIfInBounds_toArray, List.set_cons_zero, List.set_cons_succ]
                      refine take_slot (i := 8) (d := 143) (v := ?_) rfl rfl (by kernel_rfl) (by kernel_rfl) (by kernel_rfl) (fun _ _ _ h => h) (Or.inl ⟨by rfl, ?_⟩) (by assumption) ?_
                      rotate_left 1
                      focus (intro wS hSw; (try dsimp only at hSw); go_simp; try with_reducible rfl)
                      try simp only [List.setIfInBounds_toArray, List.set_cons_zero, List.set_cons_succ]
                      refine take_slot (i := 9) (d := 144) (v := ?_) rfl rfl (by kernel_rfl) (by kernel_rfl) (by kernel_rfl) (fun _ _ _ h => h) (Or.inl ⟨by rfl, ?_⟩) (by assumption) ?_
                      rotate_left 1
                      focus (intro wS hSw; (try dsimp only at hSw); go_simp; try with_reducible rfl)
                      try simp only [List.setIfInBounds_toArray, List.set_cons_zero, List.set_cons_succ]
                      refine wpAnyH_ready (rs := [11]) (by kernel_rfl) (by simp) ?_
                      refine AllReadyH.cons rfl (fun K hK => ?_) AllReadyH.nil
                      go_simp
                      replace A0 : ((Z19x11.setCell ⟨Z19x1.heap.size, 0, none⟩ (.int .i64 ga)).setCell ⟨Z19x1.heap.size, 1, none⟩ (.int .i64 gb)).cell? ⟨gA, 0, none⟩ = some (.int .i64 tl) := ((World.cell?_setCell_other _ _ _ _ (by intro e; injection e with e1 e2; omega)).trans ((World.cell?_setCell_other _ _ _ _ (by intro e; injection e with e1 e2; omega)).trans A0))
                      replace A1 : ((Z19x11.setCell ⟨Z19x1.heap.size, 0, none⟩ (.int .i64 ga)).setCell ⟨Z19x1.heap.size, 1, none⟩ (.int .i64 gb)).cell? ⟨gA, 1, none⟩ = some (.int .i64 th) := ((World.cell?_setCell_other _ _ _ _ (by intro e; injection e with e1 e2; omega)).trans ((World.cell?_setCell_other _ _ _ _ (by intro e; injection e with e1 e2; omega)).trans A1))
                      replace Y1 : ((Z19x11.setCell ⟨Z19x1.heap.size, 0, none⟩ (.int .i64 ga)).setCell ⟨Z19x1.heap.size, 1, none⟩ (.int .i64 gb)).cell? ⟨gY, 1, none⟩ = some (.int .u8 tr.te) := ((World.cell?_setCell_other _ _ _ _ (by intro e; injection e with e1 e2; omega)).trans ((World.cell?_setCell_other _ _ _ _ (by intro e; injection e with e1 e2; omega)).trans Y1))
                      replace Gf0 : ((Z19x11.setCell ⟨Z19x1.heap.size, 0, none⟩ (.int .i64 ga)).setCell ⟨Z19x1.heap.size, 1, none⟩ (.int .i64 gb)).frozen? ⟨Z19x1.heap.size, 0, none⟩ = false := by simp [go_sem, Gf0]
                      replace Gf1 : ((Z19x11.setCell ⟨Z19x1.heap.size, 0, none⟩ (.int .i64 ga)).setCell ⟨Z19x1.heap.size, 1, none⟩ (.int .i64 gb)).frozen? ⟨Z19x1.heap.size, 1, none⟩ = false := by simp [go_sem, Gf1]
                      replace G0 : ((Z19x11.setCell ⟨Z19x1.heap.size, 0, none⟩ (.int .i64 ga)).setCell ⟨Z19x1.heap.size, 1, none⟩ (.int .i64 gb)).cell? ⟨Z19x1.heap.size, 0, none⟩ = some (.int .i64 ga) := by simp [go_sem, G0]
                      replace G1 : ((Z19x11.setCell ⟨Z19x1.heap.size, 0, none⟩ (.int .i64 ga)).setCell ⟨Z19x1.heap.size, 1, none⟩ (.int .i64 gb)).cell? ⟨Z19x1.heap.size, 1, none⟩ = some (.int .i64 gb) := by simp [go_sem, G1]
                      replace nA : gA < ((Z19x11.setCell ⟨Z19x1.heap.size, 0, none⟩ (.int .i64 ga)).setCell ⟨Z19x1.heap.size, 1, none⟩ (.int .i64 gb)).heap.size := by simpa [World.setCell] using nA
                      replace nY : gY < ((Z19x11.setCell ⟨Z19x1.heap.size, 0, none⟩ (.int .i64 ga)).setCell ⟨Z19x1.heap.size, 1, none⟩ (.int .i64 gb)).heap.size := by simpa [World.setCell] using nY
                      replace nG : Z19x1.heap.size < ((Z19x11.setCell ⟨Z19x1.heap.size, 0, none⟩ (.int .i64 ga)).setCell ⟨Z19x1.heap.size, 1, none⟩ (.int .i64 gb)).heap.size := by simpa [World.setCell] using nG
                      replace hL := hL.setCell (p := ⟨Z19x1.heap.size, 0, none⟩) (by show Wa.heap.size ≤ Z19x1.heap.size; omega) (.int .i64 ga)
                      replace hL := hL.setCell (p := ⟨Z19x1.heap.size, 1, none⟩) (by show Wa.heap.size ≤ Z19x1.heap.size; omega) (.int .i64 gb)
                      refine hK.out _ _ ⟨A0, A1, Y1, trivial⟩ (fun hHeld => ?_)
                      clear hK K
                      generalize ((Z19x11.setCell ⟨Z19x1.heap.size, 0, none⟩ (.int .i64 ga)).setCell ⟨Z19x1.heap.size, 1, none⟩ (.int .i64 gb)) = Z19x12 at *
                      try simp only [Act.put, List.setIfInBounds_toArray, List.set_cons_zero, List.set_cons_succ]
                      refine take_slot (i := 12) (d := 19) (v := ?_) rfl rfl (by kernel_rfl) (by kernel_rfl) (by kernel_rfl) (fun _ _ _ h => h) (Or.inl ⟨by rfl, ?_⟩) (by assumption) ?_
                      rotate_left 1
                      focus (intro wS hSw; (try dsimp only at hSw); go_simp; try with_reducible rfl)
                      try simp only [List.setIfInBounds_toArray, List.set_cons_zero, List.set_cons_succ]
                      refine wpAnyH_done (by kernel_rfl) ?_ _
                      have hge : Wa.heap.size ≤ Z19x1.heap.size := by omega
                      clear hHeld
                      generalize Z19x1.heap.size = gG at *
                      exact key gG vr Z19x12 ⟨nG, hge, G0, G1, hL⟩
                  · go_simp
                    have hb := (Below.refl wd19.heap.size wd19).alloc (Nat.le_refl _) (Obj.cells #[.int .i64 0, .int .i64 0] 31)
                    have szZ19x13 := hL.size
                    have ord13nA := nA
                    have ord13nY := nY
                    replace A0 := cell_next hb nA A0
                    replace A1 := cell_next hb nA A1
                    replace Y1 := cell_next hb nY Y1
                    replace nA := Nat.lt_of_lt_of_le nA hb.size
                    replace nY := Nat.lt_of_lt_of_le nY hb.size
                    replace hL := hL.trans (hb.mono (Nat.le_trans hBW hL.size))
                    try (replace hvr := (SetAt.below hvr hb (Nat.le_refl _)).mono hb.size)
                    have Gf0 : (wd19.alloc (Obj.cells #[.int .i64 0, .int .i64 0] 31)).frozen? ⟨wd19.heap.size, 0, none⟩ = false := by simp [go_sem]
                    have Gf1 : (wd19.alloc (Obj.cells #[.int .i64 0, .int .i64 0] 31)).frozen? ⟨wd19.heap.size, 1, none⟩ = false := by simp [go_sem]
                    have G0 : (wd19.alloc (Obj.cells #[.int .i64 0, .int .i64 0] 31)).cell? ⟨wd19.heap.size, 0, none⟩ = some (.int .i64 0) := cell_new _ _ _ 0
                    have G1 : (wd19.alloc (Obj.cells #[.int .i64 0, .int .i64 0] 31)).cell? ⟨wd19.heap.size, 1, none⟩ = some (.int .i64 0) := cell_new _ _ _ 1
                    have nG : wd19.heap.size < (wd19.alloc (Obj.cells #[.int .i64 0, .int .i64 0] 31)).heap.size := by simp
                    refine hK.out _ _ ⟨A0, A1, Y1, trivial⟩ (fun hHeld => ?_)
                    clear hK K hb
                    generalize wd19.alloc (Obj.cells #[.int .i64 0, .int .i64 0] 31) = Z19x13 at *
                    try simp only [Act.put, List.setIfInBounds_toArray, List.set_cons_zero, List.set_cons_succ]
                    refine wpAnyH_ready (rs := [0]) (by kernel_rfl) (by simp) ?_
                    refine AllReadyH.cons rfl (fun K hK => ?_) AllReadyH.nil
                    go_simp
                    refine (rules_any _).mono ?_
                    rintro e Z19x14 ⟨vr, rfl, hvr, hb⟩
                    replace A0 := cell_next hb nA A0
                    replace A1 := cell_next hb nA A1
                    replace Y1 := cell_next hb nY Y1
                    replace Gf0 := frozen_next hb nG Gf0
                    replace Gf1 := frozen_next hb nG Gf1
                    replace G0 := cell_next hb nG G0
                    replace G1 := cell_next hb nG G1
                    replace nA := Nat.lt_of_lt_of_le nA hb.size
                    replace nY := Nat.lt_of_lt_of_le nY hb.size
                    replace nG := Nat.lt_of_lt_of_le nG hb.size
                    replace hL := hL.trans (hb.mono (Nat.le_trans hBW hL.size))
                    try (replace hvr := (SetAt.below hvr hb (Nat.le_refl _)).mono hb.size)
                    refine hK.out _ _ ⟨A0, A1, Y1, trivial⟩ (fun hHeld => ?_)
                    clear hK K hb
                    try simp only [Act.put, List.setIfInBounds_toArray, List.set_cons_zero, List.set_cons_succ]
                    refine take_slot (i := 1) (d := 137) (v := ?_) rfl rfl (by kernel_rfl) (by kernel_rfl) (by kernel_rfl) (fun _ _ _ h => h) (Or.inl ⟨by rfl, ?_⟩) (by assumption) ?_
                    rotate_left 1
                    focus (intro wS hSw; (try dsimp only at hSw); go_simp; try with_reducible rfl)
                    try simp only [List.setIfInBounds_toArray, List.set_cons_zero, List.set_cons_succ]
                    refine wpAnyH_ready (rs := [5]) (by kernel_rfl) (by simp) ?_
                    refine AllReadyH.cons rfl (fun K hK => ?_) AllReadyH.nil
                    go_simp
                    refine (CPt.out _).mono ?_
                    rintro e Z19x15 ⟨rfl, hb⟩
                    replace A0 := cell_next hb nA A0
                    replace A1 := cell_next hb nA A1
                    replace Y1 := cell_next hb nY Y1
                    replace Gf0 := frozen_next hb nG Gf0
                    replace Gf1 := frozen_next hb nG Gf1
                    replace G0 := cell_next hb nG G0
                    replace G1 := cell_next hb nG G1
                    replace nA := Nat.lt_of_lt_of_le nA hb.size
                    replace nY := Nat.lt_of_lt_of_le nY hb.size
                    replace nG := Nat.lt_of_lt_of_le nG hb.size
                    replace hL := hL.trans (hb.mono (Nat.le_trans hBW hL.size))
                    try (replace hvr := (SetAt.below hvr hb (Nat.le_refl _)).mono hb.size)
                    refine hK.out _ _ ⟨A0, A1, Y1, trivial⟩ (fun hHeld => ?_)
                    clear hK K hb
                    try simp only [Act.put, List.setIfInBounds_toArray, List.set_cons_zero, List.set_cons_succ]
                    refine wpAnyH_ready (rs := [6]) (by kernel_rfl) (by simp) ?_
                    refine AllReadyH.cons rfl (fun K hK => ?_) AllReadyH.nil
                    go_simp
                    refine (CVa.out _ _ hvr).mono ?_
                    rintro e Z19x16 ⟨rfl, hb⟩
                    replace A0 := cell_next hb nA A0
                    replace A1 := cell_next hb nA A1
                    replace Y1 := cell_next hb nY Y1
                    replace Gf0 := frozen_next hb nG Gf0
                    replace Gf1 := frozen_next hb nG Gf1
                    replace G0 := cell_next hb nG G0
                    replace G1 := cell_next hb nG G1
                    replace nA := Nat.lt_of_lt_of_le nA hb.size
                    replace nY := Nat.lt_of_lt_of_le nY hb.size
                    replace nG := Nat.lt_of_lt_of_le nG hb.size
                    replace hL := hL.trans (hb.mono (Nat.le_trans hBW hL.size))
                    try (replace hvr := (SetAt.below hvr hb (Nat.le_refl _)).mono hb.size)
                    refine hK.out _ _ ⟨A0, A1, Y1, trivial⟩ (fun hHeld => ?_)
                    clear hK K hb
                    try simp only [Act.put, List.setIfInBounds_toArray, List.set_cons_zero, List.set_cons_succ]
                    refine take_slot (i := 7) (d := 135) (v := ?_) rfl rfl (by kernel_rfl) (by kernel_rfl) (by kernel_rfl) (fun _ _ _ h => h) (Or.inl ⟨by rfl, ?_⟩) (by assumption) ?_
                    rotate_left 1
                    focus (intro wS hSw; (try dsimp only at hSw); go_simp; try with_reducible rfl)
                    try simp only [List.setIfInBounds_toArray, List.set_cons_zero, List.set_cons_succ]
                    refine take_slot (i := 8) (d := 143) (v := ?_) rfl rfl (by kernel_rfl) (by kernel_rfl) (by kernel_rfl) (fun _ _ _ h => h) (Or.inl ⟨by rfl, ?_⟩) (by assumption) ?_
                    rotate_left 1
                    focus (intro wS hSw; (try dsimp only at hSw); go_simp; try with_reducible rfl)
                    try simp only [List.setIfInBounds_toArray, List.set_cons_zero, List.set_cons_succ]
                    refine take_slot (i := 9) (d := 144) (v := ?_) rfl rfl (by kernel_rfl) (by kernel_rfl) (by kernel_rfl) (fun _ _ _ h => h) (Or.inl ⟨by rfl, ?_⟩) (by assumption) ?_
                    rotate_left 1
                    focus (intro wS hSw; (try dsimp only at hSw); go_simp; try with_reducible rfl)
                    try simp only [List.setIfInBounds_toArray, List.set_cons_zero, List.set_cons_succ]
                    refine wpAnyH_ready (rs := [11]) (by kernel_rfl) (by simp) ?_
                    refine AllReadyH.cons rfl (fun K hK => ?_) AllReadyH.nil
                    go_simp
                    replace A0 : ((Z19x16.setCell ⟨wd19.heap.size, 0, none⟩ (.int .i64 ga)).setCell ⟨wd19.heap.size, 1, none⟩ (.int .i64 gb)).cell? ⟨gA, 0, none⟩ = some (.int .i64 tl) := ((World.cell?_setCell_other _ _ _ _ (by intro e; injection e with e1 e2; omega)).trans ((World.cell?_setCell_other _ _ _ _ (by intro e; injection e with e1 e2; omega)).trans A0))
                    replace A1 : ((Z19x16.setCell ⟨wd19.heap.size, 0, none⟩ (.int .i64 ga)).setCell ⟨wd19.heap.size, 1, none⟩ (.int .i64 gb)).cell? ⟨gA, 1, none⟩ = some (.int .i64 th) := ((World.cell?_setCell_other _ _ _ _ (by intro e; injection e with e1 e2; omega)).trans ((World.cell?_setCell_other _ _ _ _ (by intro e; injection e with e1 e2; omega)).trans A1))
                    replace Y1 : ((Z19x16.setCell ⟨wd19.heap.size, 0, none⟩ (.int .i64 ga)).setCell ⟨wd19.heap.size, 1, none⟩ (.int .i64 gb)).cell? ⟨gY, 1, none⟩ = some (.int .u8 tr.te) := ((World.cell?_setCell_other _ _ _ _ (by intro e; injection e with e1 e2; omega)).trans ((World.cell?_setCell_other _ _ _ _ (by intro e; injection e with e1 e2; omega)).trans Y1))
                    replace Gf0 : ((Z19x16.setCell ⟨wd19.heap.size, 0, none⟩ (.int .i64 ga)).setCell ⟨wd19.heap.size, 1, none⟩ (.int .i64 gb)).frozen? ⟨wd19.heap.size, 0, none⟩ = false := by simp [go_sem, Gf0]
                    replace Gf1 : ((Z19x16.setCell ⟨wd19.heap.size, 0, none⟩ (.int .i64 ga)).setCell ⟨wd19.heap.size, 1, none⟩ (.int .i64 gb)).frozen? ⟨wd19.heap.size, 1, none⟩ = false := by simp [go_sem, Gf1]
                    replace G0 : ((Z19x16.setCell ⟨wd19.heap.size, 0, none⟩ (.int .i64 ga)).setCell ⟨wd19.heap.size, 1, none⟩ (.int .i64 gb)).cell? ⟨wd19.heap.size, 0, none⟩ = some (.int .i64 ga) := by simp [go_sem, G0]
                    replace G1 : ((Z19x16.setCell ⟨wd19.heap.size, 0, none⟩ (.int .i64 ga)).setCell ⟨wd19.heap.size, 1, none⟩ (.int .i64 gb)).cell? ⟨wd19.heap.size, 1, none⟩ = some (.int .i64 gb) := by simp [go_sem, G1]
                    replace nA : gA < ((Z19x16.setCell ⟨wd19.heap.size, 0, none⟩ (.int .i64 ga)).setCell ⟨wd19.heap.size, 1, none⟩ (.int .i64 gb)).heap.size := by simpa [World.setCell] using nA
                    replace nY : gY < ((Z19x16.setCell ⟨wd19.heap.size, 0, none⟩ (.int .i64 ga)).setCell ⟨wd19.heap.size, 1, none⟩ (.int .i64 gb)).heap.size := by simpa [World.setCell] using nY
                    replace nG : wd19.heap.size < ((Z19x16.setCell ⟨wd19.heap.size, 0, none⟩ (.int .i64 ga)).setCell ⟨wd19.heap.size, 1, none⟩ (.int .i64 gb)).heap.size := by simpa [World.setCell] using nG
                    replace hL := hL.setCell (p := ⟨wd19.heap.size, 0, none⟩) (by show Wa.heap.size ≤ wd19.heap.size; omega) (.int .i64 ga)
                    replace hL := hL.setCell (p := ⟨wd19.heap.size, 1, none⟩) (by show Wa.heap.size ≤ wd19.heap.size; omega) (.int .i64 gb)
                    refine hK.out _ _ ⟨A0, A1, Y1, trivial⟩ (fun hHeld => ?_)
                    clear hK K
                    generalize ((Z19x16.setCell ⟨wd19.heap.size, 0, none⟩ (.int .i64 ga)).setCell ⟨wd19.heap.size, 1, none⟩ (.int .i64 gb)) = Z19x17 at *
                    try simp only [Act.put, List.setIfInBounds_toArray, List.set_cons_zero, List.set_cons_succ]
                    refine take_slot (i := 12) (d := 19) (v := ?_) rfl rfl (by kernel_rfl) (by kernel_rfl) (by kernel_rfl) (fun _ _ _ h => h) (Or.inl ⟨by rfl, ?_⟩) (by assumption) ?_
                    rotate_left 1
                    focus (intro wS hSw; (try dsimp only at hSw); go_simp; try with_reducible rfl)
                    try simp only [List.setIfInBounds_toArray, List.set_cons_zero, List.set_cons_succ]
                    refine wpAnyH_done (by kernel_rfl) ?_ _
                    have hge : Wa.heap.size ≤ wd19.heap.size := by omega
                    clear hHeld
                    generalize wd19.heap.size = gG at *
                    exact key gG vr Z19x17 ⟨nG, hge, G0, G1, hL⟩
                case key =>
                  intro gG vr Wg ⟨nG, hgG, G0, G1, hL⟩
                  have hgAG : gA < gG := by omega
                  replace Y0 := cell_next hL nY Y0
                  replace Y1 := cell_next hL nY Y1
                  replace Y2 := cell_next hL nY Y2
                  replace Y3 := cell_next hL nY Y3
                  replace nY := Nat.lt_of_lt_of_le nY hL.size
                  replace A0 := cell_next hL nA A0
                  replace A1 := cell_next hL nA A1
                  replace nA := Nat.lt_of_lt_of_le nA hL.size
                  replace HS := Lib.hid (HS.out.below hL)
                  replace H7 := Lib.hid (own_below H7.out hL)
                  replace H9 := Lib.hid (own_below H9.out hL)
                  replace hBc := hBc.trans (hL.mono (by have := hBc.size; omega))
                  clear hL hgG hBW CPt CVa hff Y0 Y1
                  have hms := hok.ms
                  have hlots := hok.lots
                  have hfi := hok.film
                  have htm := hok.time
                  have hll := hok.ll
                  have hhl := hok.hl
                  have hxl : xs.length = ls.length := hlots.1
                  have CS := Lib.hid (stay_st1 F1.out HS.out (nn : Int) tl th gl gh ⟨by omega, fun x hx => by have := lots_mem hlots hx; exact ⟨⟨by omega, by omega⟩, by omega, by omega⟩⟩ (by omega) (by omega) (by omega) (by omega) (kE_ok ti1 ti2 ti3) hgR)
                  go_wp2_with fail
                  refine CS.out.mono ?_
                  rintro e Ws ⟨rfl, hS', hk', hb'⟩
                  clear CS HS
                  have hcu : ∀ i, gY ≤ i → ¬ Cu c vb V0 i := fun i hi h => by rcases h with h | h | h; omega; omega; have := (hl0 _ h).2; omega
                  have h7n : ∀ g, u7.ownBlock = some g → ¬ Cu c vb V0 g := fun g h hc => by have := (hl7 g h).1; rcases hc with h1 | h1 | h1; omega; omega; exact a07 g h1 h
                  have h9n : ∀ g, u9.ownBlock = some g → ¬ Cu c vb V0 g := fun g h hc => by have := (hl9 g h).1; rcases hc with h1 | h1 | h1; omega; omega; exact a09 g h1 h
                  replace H7 := Lib.hid (ownsRow_kept H7.out hk' h7n)
                  replace H9 := Lib.hid (ownsRow_kept H9.out hk' h9n)
                  replace hBc := hBc.trans hb'
                  replace Y2 := (hk'.cell (p := ⟨gY, 2, none⟩) nY (hcu gY (by omega))).trans Y2
                  replace Y3 := (hk'.cell (p := ⟨gY, 3, none⟩) nY (hcu gY (by omega))).trans Y3
                  replace nY : gY < Ws.heap.size := Nat.lt_of_lt_of_le nY hk'.1
                  replace A0 := (hk'.cell (p := ⟨gA, 0, none⟩) nA (hcu gA (by omega))).trans A0
                  replace A1 := (hk'.cell (p := ⟨gA, 1, none⟩) nA (hcu gA (by omega))).trans A1
                  replace nA : gA < Ws.heap.size := Nat.lt_of_lt_of_le nA hk'.1
                  replace G0 := (hk'.cell (p := ⟨gG, 0, none⟩) nG (hcu gG (by omega))).trans G0
                  replace G1 := (hk'.cell (p := ⟨gG, 1, none⟩) nG (hcu gG (by omega))).trans G1
                  replace nG : gG < Ws.heap.size := Nat.lt_of_lt_of_le nG hk'.1
                  have HS := Lib.hid hS'
                  clear hS' hk' hb' hcu h7n h9n hms hlots hfi htm
                  have hpg := pk_in hvb.2.1 htb.gr
                  have CPg := Lib.hid (pick_any ga gb tr.gr (by omega) htb.gr)
                  generalize pk ga gb tr.gr = gr at *
                  go_wp2_with fail
                  refine (CPg.out _).mono ?_
                  rintro e Wp ⟨rfl, hb⟩
                  replace Y3 := cell_next hb nY Y3
                  replace nY := Nat.lt_of_lt_of_le nY hb.size
                  replace A0 := cell_next hb nA A0
                  replace A1 := cell_next hb nA A1
                  replace nA := Nat.lt_of_lt_of_le nA hb.size
                  replace HS := Lib.hid (HS.out.below hb)
                  replace H7 := Lib.hid (own_below H7.out hb)
                  replace H9 := Lib.hid (own_below H9.out hb)
                  replace hBc := hBc.trans (hb.mono (by have := hBc.size; omega))
                  clear hb CPg Y2 G0 G1 nG
                  have hgl : gl ≤ gr := by omega
                  have hgh : gr ≤ gh := by omega
                  have HVL : Hid ((vlR kRows tl th).1 ≤ gr ∧ gr ≤ (vlR kRows tl th).2) := Lib.hid (by rw [hgR]; exact ⟨hgl, hgh⟩)
                  clear hgR
                  clear hin hvb hpg
                  have hhr := hok.hours
                  have HH0 : Hid (HoursOk (hs ++ List.replicate 0 (tl, th)) alone spoils) := Lib.hid (by simpa using hhr)
                  have H90 : Hid (Wp.ownsRow bw 31 2 u9 (hs.length + 0) (flat (hs ++ List.replicate 0 (tl, th)))) := Lib.hid (by simpa using H9.out)
                  have hne0 : ∀ g, u9.ownBlock = some g → g ≠ gA ∧ g ≠ gY := fun g h => by have := (hl9 g h).2; omega
                  clear hhr H9 hl9
                  have HK := Lib.hid (And.intro a07 hl7)
                  have hbwp : bw < Wp.heap.size := by omega
                  go_wp2_with fail
                  go_loopw [22, 9, 11, 10] (fun i22 V9 p11 p10 wr => ∃ (j : Nat) (al sp : Int), j ≤ nn ∧ i22 = .int .i64 (j : Int) ∧ p11 = .int .i64 al ∧ p10 = .int .i64 sp ∧ Hid (HoursOk (hs ++ List.replicate j (tl, th)) al sp) ∧ Hid (wr.ownsRow bw 31 2 V9 (hs.length + j) (flat (hs ++ List.replicate j (tl, th)))) ∧ Hid (St1 1000000000 c tk cap vb bw (T + (nn : Int)) p1 p2 (min 1000000 (fl + (nn : Int) * 1)) (min 1000000 (fh + (nn : Int) * 2)) gv V0 (xs.map (growL (nn : Int) gl gh)) wr) ∧ Hid (wr.ownsRow bw 3 1 u7 ls.length (intsV ls)) ∧ Hid (Ap V0 V9) ∧ Hid (Ap u7 V9) ∧ (∀ g, V9.ownBlock = some g → g ≠ gA ∧ g ≠ gY) ∧ wr.cell? ⟨gA, 0, none⟩ = some (.int .i64 tl) ∧ wr.cell? ⟨gA, 1, none⟩ = some (.int .i64 th) ∧ wr.cell? ⟨gY, 3, none⟩ = some (.int .u8 tr.fi) ∧ gA < wr.heap.size ∧ gY < wr.heap.size ∧ bw < wr.heap.size ∧ Below c W4 wr) (fun i22 _ _ _ _ => nn - (RowKit.intOf i22).toNat)
                  case atStart => exact ⟨0, alone, spoils, Nat.zero_le _, rfl, rfl, rfl, HH0, H90, HS, H7, Lib.hid a09, Lib.hid a79, hne0, A0, A1, Y3, nA, nY, hbwp, hBc⟩
                  case round =>
                    clear HH0 H90 HS H7 a09 a79 hne0 A0 A1 Y3 nA nY hBc hbwp
                    obtain ⟨j, al, sp, hj, rfl, rfl, rfl, HH, H9, HS, H7, a09, a79, hne, A0, A1, Y3, nA, nY, hbwr, hBc⟩ := hrel
                    generalize wr = Wx at *
                    by_cases hjn : j < nn
                    · as_aux_lemma =>
                        have hbd := hours_bd HH.out
                        have hle : (hs ++ List.replicate j (tl, th)).length = hs.length + j := by simp
                        rw [hle] at hbd
                        have hvl : (vlR kRows (tl, th).1 (tl, th).2).1 ≤ gr ∧ gr ≤ (vlR kRows (tl, th).1 (tl, th).2).2 := HVL.out
                        have hst1 := hours_step HH.out (by rw [hle]; omega) (p := (tl, th)) (g := gr) ⟨ti1, ti2, ti3⟩ hvl
                        rw [hle] at hst1
                        have hrep : hs ++ List.replicate j (tl, th) ++ [(tl, th)] = hs ++ List.replicate (j + 1) (tl, th) := by rw [List.replicate_succ', List.append_assoc]
                        rw [hrep] at hst1
                        have HST := Lib.hid hst1
                        have HREP := Lib.hid hrep
                        clear hst1 hrep hle HH
                        have wal : IntKind.i64.wrap (al + gr) = al + gr := IntWalk.i64_in _ (by omega)
                        obtain ⟨q1, hq1⟩ : ∃ q, decide (1000 ≤ al + gr) = q := ⟨_, rfl⟩
                        obtain ⟨q2, hq2⟩ : ∃ q, decide (sp < 0) = q := ⟨_, rfl⟩
                        have hl9 := World.ownsRow.lt H9.out
                        have hjt : decide ((j : Int) < (nn : Int)) = true := by simp; omega
                        go_wp2_with (at_builtin; refine wpList_append_own_at _ rfl (.tmp 164) (.tmp 166) 36 rfl bw 31 i0 (.agg #[.int .i64 0, .int .i64 0]) 2 16 Try.underlying36 hi0 hz0 hz1 hz2 rfl (by decide) u9 (hs.length + j) (flat (hs ++ List.replicate j (tl, th))) rfl (World.ownsRow.alloc H9.out _) ⟨Wx.heap.size, 0, none⟩ 1 1 [.int .i64 tl, .int .i64 th] rfl rfl ?_ ?_ ?_ ?_ ?_ ?_)
                        case refine_6 =>
                          intro V9 Wr hown' hgrow _ hat
                          have hKg : Kept (fun i => u9.ownBlock = some i) Wx Wr := (Kept.of_below' ((Below.refl _ _).alloc (Nat.le_refl _) _) _).trans (Kept.of_grown hgrow)
                          have hcg : Below c Wx Wr := ((Below.refl c Wx).alloc (by omega) _).grown hgrow (by simp; omega) (fun j hj => by have := (hl9 j hj).1; omega)
                          have hnu : ∀ i, i < bw → ¬ u9.ownBlock = some i := fun i hi h => by have := (hl9 i h).1; omega
                          have hlV := World.ownsRow.lt HS.out.2.1.2
                          have hl7x := World.ownsRow.lt H7.out
                          have hat2 : V9.ownBlock = u9.ownBlock ∨ ∃ g, V9.ownBlock = some g ∧ Wx.heap.size ≤ g := by rcases hat with h | h; exact .inl h; exact .inr ⟨_, h, by simp⟩
                          have HS2 := Lib.hid (HS.out.kept hKg (hnu _ (by omega)) (hnu _ (by omega)) (hnu _ (by omega)) (fun g hg h => a09.out g hg h) (fun i hi => hnu _ (by omega)))
                          have H72 := Lib.hid (ownsRow_kept H7.out hKg (fun g h h2 => a79.out g h h2))
                          have a092 := Lib.hid (ap_new a09.out.symm hat2 (fun g h => (hlV g h).2)).symm
                          have a792 := Lib.hid (ap_new a79.out.symm hat2 (fun g h => (hl7x g h).2)).symm
                          have hnA : ¬ u9.ownBlock = some gA := fun h => (hne gA h).1 rfl
                          have hnY : ¬ u9.ownBlock = some gY := fun h => (hne gY h).2 rfl
                          replace A0 := (hKg.cell (p := ⟨gA, 0, none⟩) nA hnA).trans A0
                          replace A1 := (hKg.cell (p := ⟨gA, 1, none⟩) nA hnA).trans A1
                          replace Y3 := (hKg.cell (p := ⟨gY, 3, none⟩) nY hnY).trans Y3
                          have hne2 : ∀ g, V9.ownBlock = some g → g ≠ gA ∧ g ≠ gY := fun g h => by rcases hat2 with h1 | ⟨g', h1, h2⟩; exact hne g (h1 ▸ h); (rw [h1] at h; injection h with h; omega)
                          have nA2 : gA < Wr.heap.size := Nat.lt_of_lt_of_le nA hKg.1
                          have nY2 : gY < Wr.heap.size := Nat.lt_of_lt_of_le nY hKg.1
                          have hbw2 : bw < Wr.heap.size := Nat.lt_of_lt_of_le hbwr hKg.1
                          have hBc2 := hBc.trans hcg
                          have H92 : Hid (Wr.ownsRow bw 31 2 V9 (hs.length + j + 1) (flat (hs ++ List.replicate (j + 1) (tl, th)))) := Lib.hid (by rw [← HREP.out]; simpa [flat] using hown')
                          obtain ⟨A9, c9, rfl⟩ : ∃ A c, V9 = .slice A (hs.length + j + 1) c := by rcases hown'.2 with ⟨_, h⟩ | ⟨g, cp, _, h, _⟩; exact absurd h (by omega); exact ⟨_, _, h⟩
                          clear hKg hcg hnu hlV hl7x hat2 hnA hnY hown' hgrow hat hne nA nY hbwr hBc H9 HS H7 a09 a79 hl9 HREP
                          have wle : IntKind.i64.wrap (((hs.length + j + 1 : Nat) : Int) - 1) = ((hs.length + j : Nat) : Int) := by rw [show ((hs.length + j + 1 : Nat) : Int) - 1 = ((hs.length + j : Nat) : Int) from by omega]; exact IntWalk.i64_in _ (by omega)
                          have wj : IntKind.i64.wrap ((j : Int) + 1) = ((j + 1 : Nat) : Int) := IntWalk.i64_in _ (by omega)
                          cases q1
                          · have HF : Hid (HoursOk (hs ++ List.replicate (j + 1) (tl, th)) (al + gr) sp) := Lib.hid (by have := HST.out; rw [if_neg (by simp at hq1; omega)] at this; exact this)
                            clear HST
                            go_wp2_with fail
                            go_roundw
                            case rel => exact ⟨j + 1, al + gr, sp, by omega, by go_num, rfl, rfl, HF, H92, HS2, H72, a092, a792, hne2, A0, A1, Y3, nA2, nY2, hbw2, hBc2⟩
                            case measure => simp [RowKit.intOf]; omega
                          · cases q2
                            · have HF : Hid (HoursOk (hs ++ List.replicate (j + 1) (tl, th)) (al + gr) sp) := Lib.hid (by have := HST.out; rw [if_neg (by simp at hq2; omega)] at this; exact this)
                              clear HST
                              go_wp2_with fail
                              go_roundw
                              case rel => exact ⟨j + 1, al + gr, sp, by omega, by go_num, rfl, rfl, HF, H92, HS2, H72, a092, a792, hne2, A0, A1, Y3, nA2, nY2, hbw2, hBc2⟩
                              case measure => simp [RowKit.intOf]; omega
                            · have HF : Hid (HoursOk (hs ++ List.replicate (j + 1) (tl, th)) (al + gr) ((hs.length : Int) + (j : Int))) := Lib.hid (by have := HST.out; rw [if_pos (by simp at hq1 hq2; omega), Int.natCast_add] at this; exact this)
                              clear HST
                              go_wp2_with fail
                              go_roundw
                              case rel => exact ⟨j + 1, al + gr, ((hs.length : Int) + (j : Int)), by omega, by go_num, rfl, rfl, HF, H92, HS2, H72, a092, a792, hne2, A0, A1, Y3, nA2, nY2, hbw2, hBc2⟩
                              case measure => simp [RowKit.intOf]; omega
                        all_goals first
                          | (intro j u hj; rcases j with _ | _ | j <;> simp at hj <;> subst hj <;> exact (cell_at _ _ _ _ _ (by simp)))
                          | (simp [Value.oneCell']; done)
                          | (unfold maxLen; omega)
                          | omega
                          | (simp; omega)
                    · as_aux_lemma =>
                        obtain rfl : j = nn := by omega
                        have hjt : decide ((j : Int) < (j : Int)) = false := by simp
                        obtain ⟨A7, c7, rfl⟩ : ∃ A c, u7 = .slice A ls.length c := by rcases H7.out.2 with ⟨h, h0⟩ | ⟨g, cp, _, h, _⟩; exact ⟨_, _, by rw [h, h0]⟩; exact ⟨_, _, h⟩
                        have hbg := hok.lots
                        have hgrb : (j : Int) * gr ≤ 9 * 300 := Int.le_trans (Int.mul_le_mul_of_nonneg_right (show (j : Int) ≤ 9 by omega) (by omega)) (Int.mul_le_mul_of_nonneg_left (by omega) (by omega))
                        have hgr0 : 0 ≤ (j : Int) * gr := Int.mul_nonneg (by omega) (by omega)
                        have HLB : Hid (∀ (i : Nat) (l : Int), ls[i]? = some l → 0 ≤ l ∧ l ≤ 100000) := Lib.hid (fun i l h => by
                          have hi : i < ls.length := (List.getElem?_eq_some_iff.1 h).1
                          have := hbg.2 i _ l (List.getElem?_eq_getElem (by rw [hbg.1]; exact hi)) h
                          omega)
                        clear hbg
                        have wm : IntKind.i64.wrap ((j : Int) * gr) = (j : Int) * gr := IntWalk.i64_in _ (by omega)
                        have HW : Hid (∀ l : Int, 0 ≤ l ∧ l ≤ 100000 → IntKind.i64.wrap (l + (j : Int) * gr) = l + (j : Int) * gr) := Lib.hid (fun l h => IntWalk.i64_in _ (by omega))
                        have H70 : Hid (Wx.ownsRow bw 3 1 (.slice A7 ls.length c7) ls.length (intsV ((ls.take 0).map (fun l => l + (j : Int) * gr) ++ ls.drop 0))) := Lib.hid (by simpa using H7.out)
                        have hl9 := World.ownsRow.lt H9.out
                        have hlV := World.ownsRow.lt HS.out.2.1.2
                        clear A0 A1 hne H7 hgrb hgr0
                        go_wp2_with fail
                        go_loopw [23] (fun i23 wr => ∃ r : Nat, r ≤ ls.length ∧ i23 = .int .i64 (r : Int) ∧ Hid (wr.ownsRow bw 3 1 (.slice A7 ls.length c7) ls.length (intsV ((ls.take r).map (fun l => l + (j : Int) * gr) ++ ls.drop r))) ∧ Hid (wr.ownsRow bw 31 2 u9 (hs.length + j) (flat (hs ++ List.replicate j (tl, th)))) ∧ Hid (St1 1000000000 c tk cap vb bw (T + (j : Int)) p1 p2 (min 1000000 (fl + (j : Int) * 1)) (min 1000000 (fh + (j : Int) * 2)) gv V0 (xs.map (growL (j : Int) gl gh)) wr) ∧ wr.cell? ⟨gY, 3, none⟩ = some (.int .u8 tr.fi) ∧ gY < wr.heap.size ∧ bw < wr.heap.size ∧ Below c W4 wr) (fun i23 _ => ls.length - (RowKit.intOf i23).toNat)
                        case atStart => exact ⟨0, Nat.zero_le _, rfl, H70, H9, HS, Y3, nY, hbwr, hBc⟩
                        case round =>
                          clear H70 H9 HS Y3 nY hbwr hBc
                          obtain ⟨r, hr, rfl, H7, H9, HS, Y3, nY, hbwr, hBc⟩ := hrel
                          generalize wr = Wz at *
                          by_cases hrl : r < ls.length
                          · obtain ⟨l, hl⟩ : ∃ p, ls[r]? = some p := ⟨_, List.getElem?_eq_getElem hrl⟩
                            obtain ⟨st1, st2⟩ := grow_stepI (fun l => l + (j : Int) * gr) ls r l hl
                            have hlb := HLB.out r l hl
                            have wl := HW.out l hlb
                            obtain ⟨g7, cc, hform, hb7, hg7⟩ := World.ownsRow.form H7.out (by omega)
                            injection hform with hA hB2 hC
                            subst hA
                            subst hC
                            have M := (World.ownsRow.cellAt H7.out r (by omega)).trans (show (intsV ((ls.take r).map (fun l => l + (j : Int) * gr) ++ ls.drop r))[r]? = some (.int .i64 l) by simp only [intsV, List.getElem?_map, st1, Option.map_some])
                            have Mf := World.ownsRow.frozenAt H7.out r
                            have hst := (World.ownsRow.stored H7.out r (.int .i64 (l + (j : Int) * gr))).1
                            have hset : (intsV ((ls.take r).map (fun l => l + (j : Int) * gr) ++ ls.drop r)).set r (.int .i64 (l + (j : Int) * gr)) = intsV ((ls.take (r + 1)).map (fun l => l + (j : Int) * gr) ++ ls.drop (r + 1)) := by rw [← st2]; simp [intsV, List.map_set]
                            rw [hset] at hst
                            have H72 := Lib.hid hst
                            have hKs : Kept (fun i => i = g7) Wz (Wz.setCell ⟨g7, r, none⟩ (.int .i64 (l + (j : Int) * gr))) := Kept.set (U := fun i => i = g7) _ (p := ⟨g7, r, none⟩) rfl _
                            have h7Y : g7 < gY := (HK.out.2 g7 rfl).2
                            have HS2 := Lib.hid (HS.out.kept hKs (by omega) (by omega) (by omega) (fun g hg h => HK.out.1 g hg (by simp [Value.ownBlock, h])) (fun i hi h => by omega))
                            have H92 := Lib.hid (ownsRow_kept H9.out hKs (fun g h h2 => a79.out g7 rfl (by rw [← h2]; exact h)))
                            have Y32 := (hKs.cell (p := ⟨gY, 3, none⟩) nY (show ¬ gY = g7 by omega)).trans Y3
                            have nY2 : gY < (Wz.setCell ⟨g7, r, none⟩ (.int .i64 (l + (j : Int) * gr))).heap.size := Nat.lt_of_lt_of_le nY hKs.1
                            have hbw2 : bw < (Wz.setCell ⟨g7, r, none⟩ (.int .i64 (l + (j : Int) * gr))).heap.size := Nat.lt_of_lt_of_le hbwr hKs.1
                            have hBc2 := hBc.trans ((Below.refl c Wz).setCell (p := ⟨g7, r, none⟩) (show c ≤ g7 by omega) (.int .i64 (l + (j : Int) * gr)))
                            clear hKs hst hset st1 st2 H7 H9 HS hBc nY hbwr Y3 hb7
                            have r0 : (0 : Int) ≤ (r : Int) := by omega
                            have r1 : (r : Int) < (ls.length : Int) := by omega
                            have r2 : decide ((r : Int) < (ls.length : Int)) = true := by simp; omega
                            have wr1 : IntKind.i64.wrap ((r : Int) + 1) = ((r + 1 : Nat) : Int) := IntWalk.i64_in _ (by omega)
                            go_wp2_with fail
                            go_roundw
                            case rel => exact ⟨r + 1, by omega, by go_num, H72, H92, HS2, Y32, nY2, hbw2, hBc2⟩
                            case measure => simp [RowKit.intOf]; omega
                          · obtain rfl : r = ls.length := by omega
                            have r2 : decide ((ls.length : Int) < (ls.length : Int)) = false := by simp
                            have htk : ((ls.take ls.length).map (fun l => l + (j : Int) * gr) ++ ls.drop ls.length) = ls.map (fun l => l + (j : Int) * gr) := by simp
                            rw [htk] at H7
                            have hfb := htb.fi
                            have tf : tr.fi.tmod 2 = tr.fi % 2 := Int.tmod_eq_emod_of_nonneg hfb.1
                            have f0 := Int.emod_nonneg tr.fi (show (2 : Int) ≠ 0 by omega)
                            have f1' := Int.emod_lt_of_pos tr.fi (show (0 : Int) < 2 by omega)
                            have wf0 : IntKind.i64.wrap tr.fi = tr.fi := IntWalk.i64_in _ (by omega)
                            have wf1 : IntKind.i64.wrap (tr.fi % 2) = tr.fi % 2 := IntWalk.i64_in _ (by omega)
                            have wf2 : IntKind.i64.wrap (1 + tr.fi % 2) = 1 + tr.fi % 2 := IntWalk.i64_in _ (by omega)
                            generalize tr.fi % 2 = fz at *
                            have hm1 : (j : Int) * (1 + fz) ≤ 9 * 2 := Int.le_trans (Int.mul_le_mul_of_nonneg_right (show (j : Int) ≤ 9 by omega) (by omega)) (Int.mul_le_mul_of_nonneg_left (by omega) (by omega))
                            have hm0 : 0 ≤ (j : Int) * (1 + fz) := Int.mul_nonneg (by omega) (by omega)
                            have hfi := hok.film
                            have wf3 : IntKind.i64.wrap ((j : Int) * (1 + fz)) = (j : Int) * (1 + fz) := IntWalk.i64_in _ (by omega)
                            have wf4 : IntKind.i64.wrap (film + (j : Int) * (1 + fz)) = film + (j : Int) * (1 + fz) := IntWalk.i64_in _ (by omega)
                            have hok2 := vt_stay hok (by omega) (n := j) (g := gr) (gl := gl) (gh := gh) (fi := 1 + fz) hn9 ⟨hg1, hgl, hgh, hg3⟩ HH.out (by simp) (by omega)
                            have HV2 : Hid (VtS bw c tk cap vb bw gv (k + 1) (.slice A7 ls.length c7) u9 (film + (j : Int) * (1 + fz)) al sp Wz) := Lib.hid ⟨_, _, _, _, _, _, _, _, V0, hok2, HS.out, by simpa using H7.out, by simpa using H9.out, HK.out.1, a09.out, a79.out⟩
                            clear hok2 H7 H9 HS a09 a79 HK hok hm1 hm0 hfi
                            have wN : IntKind.i64.wrap ((k : Int) + 1) = ((k + 1 : Nat) : Int) := IntWalk.i64_in _ (by omega)
                            go_wp2_with fail
                            go_roundw
                            case rel => exact ⟨k + 1, _, al, sp, by omega, by go_num, rfl, rfl, rfl, HV2, hbwr, hBc⟩
                            case measure => simp [RowKit.intOf]; omega
          · as_aux_lemma =>
              go_wp2_with fail
              have hbY := (Below.refl wo.heap.size wo).alloc (Nat.le_refl _) (Obj.cells #[.int .u8 tr.lo, .int .u8 tr.te, .int .u8 tr.gr, .int .u8 tr.fi] 38)
              replace D0 := cell_next hbY nD D0
              replace D1 := cell_next hbY nD D1
              replace D2 := cell_next hbY nD D2
              replace D3 := cell_next hbY nD D3
              replace D4 := cell_next hbY nD D4
              replace D5 := cell_next hbY nD D5
              replace D6 := cell_next hbY nD D6
              replace D7 := cell_next hbY nD D7
              replace D8 := cell_next hbY nD D8
              replace nD := Nat.lt_of_lt_of_le nD hbY.size
              have Y0 : (wo.alloc (Obj.cells #[.int .u8 tr.lo, .int .u8 tr.te, .int .u8 tr.gr, .int .u8 tr.fi] 38)).cell? ⟨wo.heap.size, 0, none⟩ = some (.int .u8 tr.lo) := cell_new _ _ _ 0
              have Y1 : (wo.alloc (Obj.cells #[.int .u8 tr.lo, .int .u8 tr.te, .int .u8 tr.gr, .int .u8 tr.fi] 38)).cell? ⟨wo.heap.size, 1, none⟩ = some (.int .u8 tr.te) := cell_new _ _ _ 1
              have Y2 : (wo.alloc (Obj.cells #[.int .u8 tr.lo, .int .u8 tr.te, .int .u8 tr.gr, .int .u8 tr.fi] 38)).cell? ⟨wo.heap.size, 2, none⟩ = some (.int .u8 tr.gr) := cell_new _ _ _ 2
              have Y3 : (wo.alloc (Obj.cells #[.int .u8 tr.lo, .int .u8 tr.te, .int .u8 tr.gr, .int .u8 tr.fi] 38)).cell? ⟨wo.heap.size, 3, none⟩ = some (.int .u8 tr.fi) := cell_new _ _ _ 3
              have nY : wo.heap.size < (wo.alloc (Obj.cells #[.int .u8 tr.lo, .int .u8 tr.te, .int .u8 tr.gr, .int .u8 tr.fi] 38)).heap.size := by simp
              obtain ⟨ls, hs, xs, T, p1, p2, fl, fh, V0, hok, hS, ho7, ho9, a07, a09, a79⟩ := HV.out
              clear HV X0 X1 X2 X3
              have hl7 := World.ownsRow.lt ho7
              have hl9 := World.ownsRow.lt ho9
              have hl0 : ∀ g, V0.ownBlock = some g → bw ≤ g ∧ g < wo.heap.size := World.ownsRow.lt hS.2.1.2
              have HS := Lib.hid (hS.below hbY)
              have H7 := Lib.hid (own_below ho7 hbY)
              have H9 := Lib.hid (own_below ho9 hbY)
              clear hS ho7 ho9
              replace hBc := hBc.trans (hbY.mono (by have := hBc.size; omega))
              have hgYc : bw < wo.heap.size := hbr
              clear hbY tm tm2 tm3 wkx mz mz2 kx0 kx1 hkn wt1 wt2 hbq hbq2 hbr
              generalize wo.alloc (Obj.cells #[.int .u8 tr.lo, .int .u8 tr.te, .int .u8 tr.gr, .int .u8 tr.fi] 38) = Wy at *
              generalize wo.heap.size = gY at *
              obtain ⟨⟨wa0, wa1⟩, ⟨su0, su1⟩, ⟨l00, l01⟩, ⟨l10, l11⟩⟩ : (0 ≤ dd.wa ∧ dd.wa ≤ 65535) ∧ (0 ≤ dd.su ∧ dd.su ≤ 65535) ∧ (0 ≤ dd.l0 ∧ dd.l0 ≤ 255) ∧ (0 ≤ dd.l1 ∧ dd.l1 ≤ 255) := ⟨hdb.wa, hdb.su, hdb.l0, hdb.l1⟩
              have u1 : IntKind.i64.wrap dd.l0 = dd.l0 := IntWalk.i64_in _ (by omega)
              have u2 : IntKind.i64.wrap dd.l1 = dd.l1 := IntWalk.i64_in _ (by omega)
              have u3 : IntKind.i64.wrap (dd.l0 + dd.l1) = dd.l0 + dd.l1 := IntWalk.i64_in _ (by omega)
              have u4 : IntKind.i64.wrap dd.wa = dd.wa := IntWalk.i64_in _ (by omega)
              have u5 : IntKind.i64.wrap dd.su = dd.su := IntWalk.i64_in _ (by omega)
              have u6 : IntKind.i64.wrap (1 + dd.wa) = 1 + dd.wa := IntWalk.i64_in _ (by omega)
              have hBW : Wy.heap.size ≤ Wy.heap.size := Nat.le_refl _
              refine wp_region_held_drew (S := fun w' => w'.cell? ⟨gD, oD + k * 9 + 5, none⟩ = some (.int .u8 dd.l0) ∧ w'.cell? ⟨gD, oD + k * 9 + 6, none⟩ = some (.int .u8 dd.l1) ∧ True) (by kernel_rfl) ?_ (fun hHeld => ?_)
              focus (exact ⟨D5, D6, trivial⟩)
              have hL : Below Wy.heap.size Wy Wy.drew := Below.drew (Below.refl _ _)
              replace D3 : Wy.drew.cell? ⟨gD, oD + k * 9 + 3, none⟩ = some (.int .u16 dd.wa) := D3
              replace D4 : Wy.drew.cell? ⟨gD, oD + k * 9 + 4, none⟩ = some (.int .u16 dd.su) := D4
              replace D5 : Wy.drew.cell? ⟨gD, oD + k * 9 + 5, none⟩ = some (.int .u8 dd.l0) := D5
              replace D6 : Wy.drew.cell? ⟨gD, oD + k * 9 + 6, none⟩ = some (.int .u8 dd.l1) := D6
              replace Y0 : Wy.drew.cell? ⟨gY, 0, none⟩ = some (.int .u8 tr.lo) := Y0
              replace nD : gD < Wy.drew.heap.size := nD
              replace nY : gY < Wy.drew.heap.size := nY
              generalize hWd : Wy.drew = wd13 at hHeld hL D3 D4 D5 D6 Y0 nD nY  ⊢
              clear hWd
              refine take_slot (i := 0) (d := 72) (v := ?_) rfl rfl (by kernel_rfl) (by kernel_rfl) (by kernel_rfl) (fun _ _ _ h => h) (Or.inl ⟨by rfl, ?_⟩) (by assumption) ?_
              rotate_left 1
              focus (intro wS hSw; (try dsimp only at hSw); go_simp; try with_reducible rfl)
              try simp only [List.setIfInBounds_toArray, List.set_cons_zero, List.set_cons_succ]
              refine take_slot (i := 1) (d := 73) (v := ?_) rfl rfl (by kernel_rfl) (by kernel_rfl) (by kernel_rfl) (fun _ _ _ h => h) (Or.inl ⟨by rfl, ?_⟩) (by assumption) ?_
              rotate_left 1
              focus (intro wS hSw; (try dsimp only at hSw); go_simp; try with_reducible rfl)
              try simp only [List.setIfInBounds_toArray, List.set_cons_zero, List.set_cons_succ]
              refine take_slot (i := 2) (d := 74) (v := ?_) rfl rfl (by kernel_rfl) (by kernel_rfl) (by kernel_rfl) (fun _ _ _ h => h) (Or.inl ⟨by rfl, ?_⟩) (by assumption) ?_
              rotate_left 1
              focus (intro wS hSw; (try dsimp only at hSw); go_simp; try with_reducible rfl)
              try simp only [List.setIfInBounds_toArray, List.set_cons_zero, List.set_cons_succ]
              refine take_slot (i := 3) (d := 75) (v := ?_) rfl rfl (by kernel_rfl) (by kernel_rfl) (by kernel_rfl) (fun _ _ _ h => h) (Or.inl ⟨by rfl, ?_⟩) (by assumption) ?_
              rotate_left 1
              focus (intro wS hSw; (try dsimp only at hSw); go_simp; try with_reducible rfl)
              try simp only [List.setIfInBounds_toArray, List.set_cons_zero, List.set_cons_succ]
              refine take_slot (i := 4) (d := 76) (v := ?_) rfl rfl (by kernel_rfl) (by kernel_rfl) (by kernel_rfl) (fun _ _ _ h => h) (Or.inl ⟨by rfl, ?_⟩) (by assumption) ?_
              rotate_left 1
              focus (intro wS hSw; (try dsimp only at hSw); go_simp; try with_reducible rfl)
              try simp only [List.setIfInBounds_toArray, List.set_cons_zero, List.set_cons_succ]
              refine take_slot (i := 5) (d := 77) (v := ?_) rfl rfl (by kernel_rfl) (by kernel_rfl) (by kernel_rfl) (fun _ _ _ h => h) (Or.inl ⟨by rfl, ?_⟩) (by assumption) ?_
              rotate_left 1
              focus (intro wS hSw; (try dsimp only at hSw); go_simp; try with_reducible rfl)
              try simp only [List.setIfInBounds_toArray, List.set_cons_zero, List.set_cons_succ]
              refine take_slot (i := 6) (d := 78) (v := ?_) rfl rfl (by kernel_rfl) (by kernel_rfl) (by kernel_rfl) (fun _ _ _ h => h) (Or.inl ⟨by rfl, ?_⟩) (by assumption) ?_
              rotate_left 1
              focus (intro wS hSw; (try dsimp only at hSw); go_simp; try with_reducible rfl)
              try simp only [List.setIfInBounds_toArray, List.set_cons_zero, List.set_cons_succ]
              refine take_slot (i := 7) (d := 79) (v := ?_) rfl rfl (by kernel_rfl) (by kernel_rfl) (by kernel_rfl) (fun _ _ _ h => h) (Or.inl ⟨by rfl, ?_⟩) (by assumption) ?_
              rotate_left 1
              focus (intro wS hSw; (try dsimp only at hSw); go_simp; try with_reducible rfl)
              try simp only [List.setIfInBounds_toArray, List.set_cons_zero, List.set_cons_succ]
              refine take_slot (i := 8) (d := 80) (v := ?_) rfl rfl (by kernel_rfl) (by kernel_rfl) (by kernel_rfl) (fun _ _ _ h => h) (Or.inl ⟨by rfl, ?_⟩) (by assumption) ?_
              rotate_left 1
              focus (intro wS hSw; (try dsimp only at hSw); go_simp; try with_reducible rfl)
              try simp only [List.setIfInBounds_toArray, List.set_cons_zero, List.set_cons_succ]
              refine take_slot (i := 9) (d := 81) (v := ?_) rfl rfl (by kernel_rfl) (by kernel_rfl) (by kernel_rfl) (fun _ _ _ h => h) (Or.inl ⟨by rfl, ?_⟩) (by assumption) ?_
              rotate_left 1
              focus (intro wS hSw; (try dsimp only at hSw); go_simp; try with_reducible rfl)
              try simp only [List.setIfInBounds_toArray, List.set_cons_zero, List.set_cons_succ]
              refine take_slot (i := 10) (d := 82) (v := ?_) rfl rfl (by kernel_rfl) (by kernel_rfl) (by kernel_rfl) (fun _ _ _ h => h) (Or.inl ⟨by rfl, ?_⟩) (by assumption) ?_
              rotate_left 1
              focus (intro wS hSw; (try dsimp only at hSw); go_simp; try with_reducible rfl)
              try simp only [List.setIfInBounds_toArray, List.set_cons_zero, List.set_cons_succ]
              refine take_slot (i := 11) (d := 83) (v := ?_) rfl rfl (by kernel_rfl) (by kernel_rfl) (by kernel_rfl) (fun _ _ _ h => h) (Or.inl ⟨by rfl, ?_⟩) (by assumption) ?_
              rotate_left 1
              focus (intro wS hSw; (try dsimp only at hSw); go_simp; try with_reducible rfl)
              try simp only [List.setIfInBounds_toArray, List.set_cons_zero, List.set_cons_succ]
              refine take_slot (i := 12) (d := 84) (v := ?_) rfl rfl (by kernel_rfl) (by kernel_rfl) (by kernel_rfl) (fun _ _ _ h => h) (Or.inl ⟨by rfl, ?_⟩) (by assumption) ?_
              rotate_left 1
              focus (intro wS hSw; (try dsimp only at hSw); go_simp; try with_reducible rfl)
              try simp only [List.setIfInBounds_toArray, List.set_cons_zero, List.set_cons_succ]
              refine take_slot (i := 13) (d := 85) (v := ?_) rfl rfl (by kernel_rfl) (by kernel_rfl) (by kernel_rfl) (fun _ _ _ h => h) (Or.inl ⟨by rfl, ?_⟩) (by assumption) ?_
              rotate_left 1
              focus (intro wS hSw; (try dsimp only at hSw); go_simp; try with_reducible rfl)
              try simp only [List.setIfInBounds_toArray, List.set_cons_zero, List.set_cons_succ]
              refine take_slot (i := 14) (d := 86) (v := ?_) rfl rfl (by kernel_rfl) (by kernel_rfl) (by kernel_rfl) (fun _ _ _ h => h) (Or.inl ⟨by rfl, ?_⟩) (by assumption) ?_
              rotate_left 1
              focus (intro wS hSw; (try dsimp only at hSw); go_simp; try with_reducible rfl)
              try simp only [List.setIfInBounds_toArray, List.set_cons_zero, List.set_cons_succ]
              refine take_slot (i := 15) (d := 87) (v := ?_) rfl rfl (by kernel_rfl) (by kernel_rfl) (by kernel_rfl) (fun _ _ _ h => h) (Or.inl ⟨by rfl, ?_⟩) (by assumption) ?_
              rotate_left 1
              focus (intro wS hSw; (try dsimp only at hSw); go_simp; try with_reducible rfl)
              try simp only [List.setIfInBounds_toArray, List.set_cons_zero, List.set_cons_succ]
              refine take_slot (i := 16) (d := 88) (v := ?_) rfl rfl (by kernel_rfl) (by kernel_rfl) (by kernel_rfl) (fun _ _ _ h => h) (Or.inl ⟨by rfl, ?_⟩) (by assumption) ?_
              rotate_left 1
              focus (intro wS hSw; (try dsimp only at hSw); go_simp; try with_reducible rfl)
              try simp only [List.setIfInBounds_toArray, List.set_cons_zero, List.set_cons_succ]
              refine take_slot (i := 17) (d := 89) (v := ?_) rfl rfl (by kernel_rfl) (by kernel_rfl) (by kernel_rfl) (fun _ _ _ h => h) (Or.inl ⟨by rfl, ?_⟩) (by assumption) ?_
              rotate_left 1
              focus (intro wS hSw; (try dsimp only at hSw); go_simp; try with_reducible rfl)
              try simp only [List.setIfInBounds_toArray, List.set_cons_zero, List.set_cons_succ]
              refine take_slot (i := 18) (d := 90) (v := ?_) rfl rfl (by kernel_rfl) (by kernel_rfl) (by kernel_rfl) (fun _ _ _ h => h) (Or.inl ⟨by rfl, ?_⟩) (by assumption) ?_
              rotate_left 1
              focus (intro wS hSw; (try dsimp only at hSw); go_simp; try with_reducible rfl)
              try simp only [List.setIfInBounds_toArray, List.set_cons_zero, List.set_cons_succ]
              refine take_slot (i := 19) (d := 91) (v := ?_) rfl rfl (by kernel_rfl) (by kernel_rfl) (by kernel_rfl) (fun _ _ _ h => h) (Or.inl ⟨by rfl, ?_⟩) (by assumption) ?_
              rotate_left 1
              focus (intro wS hSw; (try dsimp only at hSw); go_simp; try with_reducible rfl)
              try simp only [List.setIfInBounds_toArray, List.set_cons_zero, List.set_cons_succ]
              refine take_slot (i := 20) (d := 92) (v := ?_) rfl rfl (by kernel_rfl) (by kernel_rfl) (by kernel_rfl) (fun _ _ _ h => h) (Or.inl ⟨by rfl, ?_⟩) (by assumption) ?_
              rotate_left 1
              focus (intro wS hSw; (try dsimp only at hSw); go_simp; try with_reducible rfl)
              try simp only [List.setIfInBounds_toArray, List.set_cons_zero, List.set_cons_succ]
              refine take_slot (i := 21) (d := 93) (v := ?_) rfl rfl (by kernel_rfl) (by kernel_rfl) (by kernel_rfl) (fun _ _ _ h => h) (Or.inl ⟨by rfl, ?_⟩) (by assumption) ?_
              rotate_left 1
              focus (intro wS hSw; (try dsimp only at hSw); go_simp; try with_reducible rfl)
              try simp only [List.setIfInBounds_toArray, List.set_cons_zero, List.set_cons_succ]
              refine take_slot (i := 22) (d := 94) (v := ?_) rfl rfl (by kernel_rfl) (by kernel_rfl) (by kernel_rfl) (fun _ _ _ h => h) (Or.inl ⟨by rfl, ?_⟩) (by assumption) ?_
              rotate_left 1
              focus (intro wS hSw; (try dsimp only at hSw); go_simp; try with_reducible rfl)
              try simp only [List.setIfInBounds_toArray, List.set_cons_zero, List.set_cons_succ]
              refine wpAnyH_ready (rs := [23]) (by kernel_rfl) (by simp) ?_
              refine AllReadyH.cons rfl (fun K hK => ?_) AllReadyH.nil
              go_simp
              have hb := (Below.refl wd13.heap.size wd13).alloc (Nat.le_refl _) (Obj.cells #[.int .i64 0, .int .i64 0] 31)
              have szZ13x1 := hL.size
              have ord1nD := nD
              have ord1nY := nY
              replace D3 := cell_next hb nD D3
              replace D4 := cell_next hb nD D4
              replace D5 := cell_next hb nD D5
              replace D6 := cell_next hb nD D6
              replace Y0 := cell_next hb nY Y0
              replace nD := Nat.lt_of_lt_of_le nD hb.size
              replace nY := Nat.lt_of_lt_of_le nY hb.size
              replace hL := hL.trans (hb.mono (Nat.le_trans hBW hL.size))
              have Lf0 : (wd13.alloc (Obj.cells #[.int .i64 0, .int .i64 0] 31)).frozen? ⟨wd13.heap.size, 0, none⟩ = false := by simp [go_sem]
              have Lf1 : (wd13.alloc (Obj.cells #[.int .i64 0, .int .i64 0] 31)).frozen? ⟨wd13.heap.size, 1, none⟩ = false := by simp [go_sem]
              have L0 : (wd13.alloc (Obj.cells #[.int .i64 0, .int .i64 0] 31)).cell? ⟨wd13.heap.size, 0, none⟩ = some (.int .i64 0) := cell_new _ _ _ 0
              have L1 : (wd13.alloc (Obj.cells #[.int .i64 0, .int .i64 0] 31)).cell? ⟨wd13.heap.size, 1, none⟩ = some (.int .i64 0) := cell_new _ _ _ 1
              have nL : wd13.heap.size < (wd13.alloc (Obj.cells #[.int .i64 0, .int .i64 0] 31)).heap.size := by simp
              refine hK.out _ _ ⟨D5, D6, trivial⟩ (fun hHeld => ?_)
              clear hK K hb
              generalize wd13.alloc (Obj.cells #[.int .i64 0, .int .i64 0] 31) = Z13x1 at *
              try simp only [Act.put, List.setIfInBounds_toArray, List.set_cons_zero, List.set_cons_succ]
              refine wpAnyH_ready (rs := [24]) (by kernel_rfl) (by simp) ?_
              refine AllReadyH.cons rfl (fun K hK => ?_) AllReadyH.nil
              go_simp
              replace D3 : ((Z13x1.setCell ⟨wd13.heap.size, 0, none⟩ (.int .i64 dd.l0)).setCell ⟨wd13.heap.size, 1, none⟩ (.int .i64 (dd.l0 + dd.l1))).cell? ⟨gD, oD + k * 9 + 3, none⟩ = some (.int .u16 dd.wa) := ((World.cell?_setCell_other _ _ _ _ (by intro e; injection e with e1 e2; omega)).trans ((World.cell?_setCell_other _ _ _ _ (by intro e; injection e with e1 e2; omega)).trans D3))
              replace D4 : ((Z13x1.setCell ⟨wd13.heap.size, 0, none⟩ (.int .i64 dd.l0)).setCell ⟨wd13.heap.size, 1, none⟩ (.int .i64 (dd.l0 + dd.l1))).cell? ⟨gD, oD + k * 9 + 4, none⟩ = some (.int .u16 dd.su) := ((World.cell?_setCell_other _ _ _ _ (by intro e; injection e with e1 e2; omega)).trans ((World.cell?_setCell_other _ _ _ _ (by intro e; injection e with e1 e2; omega)).trans D4))
              replace D5 : ((Z13x1.setCell ⟨wd13.heap.size, 0, none⟩ (.int .i64 dd.l0)).setCell ⟨wd13.heap.size, 1, none⟩ (.int .i64 (dd.l0 + dd.l1))).cell? ⟨gD, oD + k * 9 + 5, none⟩ = some (.int .u8 dd.l0) := ((World.cell?_setCell_other _ _ _ _ (by intro e; injection e with e1 e2; omega)).trans ((World.cell?_setCell_other _ _ _ _ (by intro e; injection e with e1 e2; omega)).trans D5))
              replace D6 : ((Z13x1.setCell ⟨wd13.heap.size, 0, none⟩ (.int .i64 dd.l0)).setCell ⟨wd13.heap.size, 1, none⟩ (.int .i64 (dd.l0 + dd.l1))).cell? ⟨gD, oD + k * 9 + 6, none⟩ = some (.int .u8 dd.l1) := ((World.cell?_setCell_other _ _ _ _ (by intro e; injection e with e1 e2; omega)).trans ((World.cell?_setCell_other _ _ _ _ (by intro e; injection e with e1 e2; omega)).trans D6))
              replace Y0 : ((Z13x1.setCell ⟨wd13.heap.size, 0, none⟩ (.int .i64 dd.l0)).setCell ⟨wd13.heap.size, 1, none⟩ (.int .i64 (dd.l0 + dd.l1))).cell? ⟨gY, 0, none⟩ = some (.int .u8 tr.lo) := ((World.cell?_setCell_other _ _ _ _ (by intro e; injection e with e1 e2; omega)).trans ((World.cell?_setCell_other _ _ _ _ (by intro e; injection e with e1 e2; omega)).trans Y0))
              replace Lf0 : ((Z13x1.setCell ⟨wd13.heap.size, 0, none⟩ (.int .i64 dd.l0)).setCell ⟨wd13.heap.size, 1, none⟩ (.int .i64 (dd.l0 + dd.l1))).frozen? ⟨wd13.heap.size, 0, none⟩ = false := by simp [go_sem, Lf0]
              replace Lf1 : ((Z13x1.setCell ⟨wd13.heap.size, 0, none⟩ (.int .i64 dd.l0)).setCell ⟨wd13.heap.size, 1, none⟩ (.int .i64 (dd.l0 + dd.l1))).frozen? ⟨wd13.heap.size, 1, none⟩ = false := by simp [go_sem, Lf1]
              replace L0 : ((Z13x1.setCell ⟨wd13.heap.size, 0, none⟩ (.int .i64 dd.l0)).setCell ⟨wd13.heap.size, 1, none⟩ (.int .i64 (dd.l0 + dd.l1))).cell? ⟨wd13.heap.size, 0, none⟩ = some (.int .i64 dd.l0) := by simp [go_sem, L0]
              replace L1 : ((Z13x1.setCell ⟨wd13.heap.size, 0, none⟩ (.int .i64 dd.l0)).setCell ⟨wd13.heap.size, 1, none⟩ (.int .i64 (dd.l0 + dd.l1))).cell? ⟨wd13.heap.size, 1, none⟩ = some (.int .i64 (dd.l0 + dd.l1)) := by simp [go_sem, L1]
              replace nD : gD < ((Z13x1.setCell ⟨wd13.heap.size, 0, none⟩ (.int .i64 dd.l0)).setCell ⟨wd13.heap.size, 1, none⟩ (.int .i64 (dd.l0 + dd.l1))).heap.size := by simpa [World.setCell] using nD
              replace nY : gY < ((Z13x1.setCell ⟨wd13.heap.size, 0, none⟩ (.int .i64 dd.l0)).setCell ⟨wd13.heap.size, 1, none⟩ (.int .i64 (dd.l0 + dd.l1))).heap.size := by simpa [World.setCell] using nY
              replace nL : wd13.heap.size < ((Z13x1.setCell ⟨wd13.heap.size, 0, none⟩ (.int .i64 dd.l0)).setCell ⟨wd13.heap.size, 1, none⟩ (.int .i64 (dd.l0 + dd.l1))).heap.size := by simpa [World.setCell] using nL
              replace hL := hL.setCell (p := ⟨wd13.heap.size, 0, none⟩) (by show Wy.heap.size ≤ wd13.heap.size; omega) (.int .i64 dd.l0)
              replace hL := hL.setCell (p := ⟨wd13.heap.size, 1, none⟩) (by show Wy.heap.size ≤ wd13.heap.size; omega) (.int .i64 (dd.l0 + dd.l1))
              refine hK.out _ _ ⟨D5, D6, trivial⟩ (fun hHeld => ?_)
              clear hK K
              generalize ((Z13x1.setCell ⟨wd13.heap.size, 0, none⟩ (.int .i64 dd.l0)).setCell ⟨wd13.heap.size, 1, none⟩ (.int .i64 (dd.l0 + dd.l1))) = Z13x2 at *
              try simp only [Act.put, List.setIfInBounds_toArray, List.set_cons_zero, List.set_cons_succ]
              refine wpAnyH_done (by kernel_rfl) ?_ _
              clear hHeld hBW Lf0 Lf1
              replace HS := Lib.hid (HS.out.below hL)
              replace H7 := Lib.hid (own_below H7.out hL)
              replace H9 := Lib.hid (own_below H9.out hL)
              replace hBc := hBc.trans (hL.mono (by have := hBc.size; omega))
              have hLB : Wy.heap.size ≤ wd13.heap.size := by omega
              generalize wd13.heap.size = gL at *
              clear hL
              have hms := hok.ms
              have hlots := hok.lots
              have hpo := hok.po
              have hsm := hok.sm
              have htm := hok.time
              have hll := hok.ll
              have hxl : xs.length = ls.length := hlots.1
              have hlot : lotB ⟨1 + dd.wa, dd.su, dd.l0, dd.l0 + dd.l1, T⟩ = true := by simp [lotB, spB, rgB, inB]; omega
              have CP := Lib.hid (fun (W : World) (h : St1 1000000000 c tk cap vb bw T p1 p2 fl fh gv V0 xs W) => pour_st1 F1.out h ⟨1 + dd.wa, dd.su, dd.l0, dd.l0 + dd.l1, T⟩ rfl (fun x hx => ⟨(hms x hx).1, (hms x hx).2.2⟩) (by omega) hlot (by have := (lotSum_bd xs fun x hx => (hms x hx).1); dsimp only; omega) (by simp [spB]; omega) (by simp [spB]; omega))
              dsimp only at CP
              clear hms hlots hpo hsm htm hlot
              go_wp2_with fail
              have hBW : Z13x2.heap.size ≤ Z13x2.heap.size := Nat.le_refl _
              have hgc : gD < c := by omega
              have hcL : c ≤ Z13x2.heap.size := by omega
              refine wp_region_held_drew (S := fun w' => w'.cell? ⟨gD, oD + k * 9 + 3, none⟩ = some (.int .u16 dd.wa) ∧ w'.cell? ⟨gD, oD + k * 9 + 4, none⟩ = some (.int .u16 dd.su) ∧ w'.cell? ⟨gL, 0, none⟩ = some (.int .i64 dd.l0) ∧ w'.cell? ⟨gL, 1, none⟩ = some (.int .i64 (dd.l0 + dd.l1)) ∧ True) (by kernel_rfl) ?_ (fun hHeld => ?_)
              focus (exact ⟨D3, D4, L0, L1, trivial⟩)
              have hL : Below Z13x2.heap.size Z13x2 Z13x2.drew := Below.drew (Below.refl _ _)
              replace D3 : Z13x2.drew.cell? ⟨gD, oD + k * 9 + 3, none⟩ = some (.int .u16 dd.wa) := D3
              replace D4 : Z13x2.drew.cell? ⟨gD, oD + k * 9 + 4, none⟩ = some (.int .u16 dd.su) := D4
              replace Y0 : Z13x2.drew.cell? ⟨gY, 0, none⟩ = some (.int .u8 tr.lo) := Y0
              replace L0 : Z13x2.drew.cell? ⟨gL, 0, none⟩ = some (.int .i64 dd.l0) := L0
              replace L1 : Z13x2.drew.cell? ⟨gL, 1, none⟩ = some (.int .i64 (dd.l0 + dd.l1)) := L1
              replace nD : gD < Z13x2.drew.heap.size := nD
              replace nY : gY < Z13x2.drew.heap.size := nY
              replace nL : gL < Z13x2.drew.heap.size := nL
              generalize hWd : Z13x2.drew = wd14 at hHeld hL D3 D4 Y0 L0 L1 nD nY nL  ⊢
              clear hWd
              refine take_slot (i := 0) (d := 95) (v := ?_) rfl rfl (by kernel_rfl) (by kernel_rfl) (by kernel_rfl) (fun _ _ _ h => h) (Or.inl ⟨by rfl, ?_⟩) (by assumption) ?_
              rotate_left 1
              focus (intro wS hSw; (try dsimp only at hSw); go_simp; try with_reducible rfl)
              try simp only [List.setIfInBounds_toArray, List.set_cons_zero, List.set_cons_succ]
              refine take_slot (i := 1) (d := 96) (v := ?_) rfl rfl (by kernel_rfl) (by kernel_rfl) (by kernel_rfl) (fun _ _ _ h => h) (Or.inl ⟨by rfl, ?_⟩) (by assumption) ?_
              rotate_left 1
              focus (intro wS hSw; (try dsimp only at hSw); go_simp; try with_reducible rfl)
              try simp only [List.setIfInBounds_toArray, List.set_cons_zero, List.set_cons_succ]
              refine take_slot (i := 2) (d := 97) (v := ?_) rfl rfl (by kernel_rfl) (by kernel_rfl) (by kernel_rfl) (fun _ _ _ h => h) (Or.inl ⟨by rfl, ?_⟩) (by assumption) ?_
              rotate_left 1
              focus (intro wS hSw; (try dsimp only at hSw); go_simp; try with_reducible rfl)
              try simp only [List.setIfInBounds_toArray, List.set_cons_zero, List.set_cons_succ]
              refine take_slot (i := 3) (d := 98) (v := ?_) rfl rfl (by kernel_rfl) (by kernel_rfl) (by kernel_rfl) (fun _ _ _ h => h) (Or.inl ⟨by rfl, ?_⟩) (by assumption) ?_
              rotate_left 1
              focus (intro wS hSw; (try dsimp only at hSw); go_simp; try with_reducible rfl)
              try simp only [List.setIfInBounds_toArray, List.set_cons_zero, List.set_cons_succ]
              refine take_slot (i := 4) (d := 99) (v := ?_) rfl rfl (by kernel_rfl) (by kernel_rfl) (by kernel_rfl) (fun _ _ _ h => h) (Or.inl ⟨by rfl, ?_⟩) (by assumption) ?_
              rotate_left 1
              focus (intro wS hSw; (try dsimp only at hSw); go_simp; try with_reducible rfl)
              try simp only [List.setIfInBounds_toArray, List.set_cons_zero, List.set_cons_succ]
              refine take_slot (i := 5) (d := 100) (v := ?_) rfl rfl (by kernel_rfl) (by kernel_rfl) (by kernel_rfl) (fun _ _ _ h => h) (Or.inl ⟨by rfl, ?_⟩) (by assumption) ?_
              rotate_left 1
              focus (intro wS hSw; (try dsimp only at hSw); go_simp; try with_reducible rfl)
              try simp only [List.setIfInBounds_toArray, List.set_cons_zero, List.set_cons_succ]
              refine take_slot (i := 6) (d := 101) (v := ?_) rfl rfl (by kernel_rfl) (by kernel_rfl) (by kernel_rfl) (fun _ _ _ h => h) (Or.inl ⟨by rfl, ?_⟩) (by assumption) ?_
              rotate_left 1
              focus (intro wS hSw; (try dsimp only at hSw); go_simp; try with_reducible rfl)
              try simp only [List.setIfInBounds_toArray, List.set_cons_zero, List.set_cons_succ]
              refine take_slot (i := 7) (d := 102) (v := ?_) rfl rfl (by kernel_rfl) (by kernel_rfl) (by kernel_rfl) (fun _ _ _ h => h) (Or.inl ⟨by rfl, ?_⟩) (by assumption) ?_
              rotate_left 1
              focus (intro wS hSw; (try dsimp only at hSw); go_simp; try with_reducible rfl)
              try simp only [List.setIfInBounds_toArray, List.set_cons_zero, List.set_cons_succ]
              refine take_slot (i := 8) (d := 103) (v := ?_) rfl rfl (by kernel_rfl) (by kernel_rfl) (by kernel_rfl) (fun _ _ _ h => h) (Or.inl ⟨by rfl, ?_⟩) (by assumption) ?_
              rotate_left 1
              focus (intro wS hSw; (try dsimp only at hSw); go_simp; try with_reducible rfl)
              try simp only [List.setIfInBounds_toArray, List.set_cons_zero, List.set_cons_succ]
              refine take_slot (i := 9) (d := 104) (v := ?_) rfl rfl (by kernel_rfl) (by kernel_rfl) (by kernel_rfl) (fun _ _ _ h => h) (Or.inl ⟨by rfl, ?_⟩) (by assumption) ?_
              rotate_left 1
              focus (intro wS hSw; (try dsimp only at hSw); go_simp; try with_reducible rfl)
              try simp only [List.setIfInBounds_toArray, List.set_cons_zero, List.set_cons_succ]
              refine take_slot (i := 10) (d := 105) (v := ?_) rfl rfl (by kernel_rfl) (by kernel_rfl) (by kernel_rfl) (fun _ _ _ h => h) (Or.inl ⟨by rfl, ?_⟩) (by assumption) ?_
              rotate_left 1
              focus (intro wS hSw; (try dsimp only at hSw); go_simp; try with_reducible rfl)
              try simp only [List.setIfInBounds_toArray, List.set_cons_zero, List.set_cons_succ]
              refine take_slot (i := 11) (d := 106) (v := ?_) rfl rfl (by kernel_rfl) (by kernel_rfl) (by kernel_rfl) (fun _ _ _ h => h) (Or.inl ⟨by rfl, ?_⟩) (by assumption) ?_
              rotate_left 1
              focus (intro wS hSw; (try dsimp only at hSw); go_simp; try with_reducible rfl)
              try simp only [List.setIfInBounds_toArray, List.set_cons_zero, List.set_cons_succ]
              refine take_slot (i := 12) (d := 107) (v := ?_) rfl rfl (by kernel_rfl) (by kernel_rfl) (by kernel_rfl) (fun _ _ _ h => h) (Or.inl ⟨by rfl, ?_⟩) (by assumption) ?_
              rotate_left 1
              focus (intro wS hSw; (try dsimp only at hSw); go_simp; try with_reducible rfl)
              try simp only [List.setIfInBounds_toArray, List.set_cons_zero, List.set_cons_succ]
              refine take_slot (i := 13) (d := 108) (v := ?_) rfl rfl (by kernel_rfl) (by kernel_rfl) (by kernel_rfl) (fun _ _ _ h => h) (Or.inl ⟨by rfl, ?_⟩) (by assumption) ?_
              rotate_left 1
              focus (intro wS hSw; (try dsimp only at hSw); go_simp; try with_reducible rfl)
              try simp only [List.setIfInBounds_toArray, List.set_cons_zero, List.set_cons_succ]
              refine take_slot (i := 14) (d := 109) (v := ?_) rfl rfl (by kernel_rfl) (by kernel_rfl) (by kernel_rfl) (fun _ _ _ h => h) (Or.inl ⟨by rfl, ?_⟩) (by assumption) ?_
              rotate_left 1
              focus (intro wS hSw; (try dsimp only at hSw); go_simp; try with_reducible rfl)
              try simp only [List.setIfInBounds_toArray, List.set_cons_zero, List.set_cons_succ]
              refine take_slot (i := 15) (d := 110) (v := ?_) rfl rfl (by kernel_rfl) (by kernel_rfl) (by kernel_rfl) (fun _ _ _ h => h) (Or.inl ⟨by rfl, ?_⟩) (by assumption) ?_
              rotate_left 1
              focus (intro wS hSw; (try dsimp only at hSw); go_simp; try with_reducible rfl)
              try simp only [List.setIfInBounds_toArray, List.set_cons_zero, List.set_cons_succ]
              refine wpAnyH_ready (rs := [16]) (by kernel_rfl) (by simp) ?_
              refine AllReadyH.cons rfl (fun K hK => ?_) AllReadyH.nil
              go_simp
              have hgW := nY
              refine (CP.out _ (HS.out.below hL)).mono ?_
              rintro e Z14x1 ⟨rfl, V', hS', hob, hk', hb'⟩
              have hKp := (Kept.of_below' hL (Cu c vb V0)).trans hk'
              have hBp := (hL.mono hcL).trans hb'
              replace D3 := cell_next hb' (by omega) D3
              replace D4 := cell_next hb' (by omega) D4
              replace nD := Nat.lt_of_lt_of_le nD hb'.size
              have hcu : ∀ i, gY ≤ i → ¬ Cu c vb V0 i := fun i hi h => by rcases h with h | h | h; omega; omega; have := (hl0 _ h).2; omega
              replace Y0 := (hk'.cell (p := ⟨gY, 0, none⟩) nY (hcu gY (by omega))).trans Y0
              replace nY := Nat.lt_of_lt_of_le nY hb'.size
              replace L0 := (hk'.cell (p := ⟨gL, 0, none⟩) nL (hcu gL (by omega))).trans L0
              replace L1 := (hk'.cell (p := ⟨gL, 1, none⟩) nL (hcu gL (by omega))).trans L1
              replace nL := Nat.lt_of_lt_of_le nL hb'.size
              refine hK.out _ _ ⟨D3, D4, L0, L1, trivial⟩ (fun hHeld => ?_)
              clear hK K
              try simp only [Act.put, List.setIfInBounds_toArray, List.set_cons_zero, List.set_cons_succ]
              refine take_slot (i := 17) (d := 15) (v := ?_) rfl rfl (by kernel_rfl) (by kernel_rfl) (by kernel_rfl) (fun _ _ _ h => h) (Or.inl ⟨by rfl, ?_⟩) (by assumption) ?_
              rotate_left 1
              focus (intro wS hSw; (try dsimp only at hSw); go_simp; try with_reducible rfl)
              try simp only [List.setIfInBounds_toArray, List.set_cons_zero, List.set_cons_succ]
              refine wpAnyH_done (by kernel_rfl) ?_ _
              clear hHeld hBW hL CP hk' hb'
              have h7n : ∀ g, u7.ownBlock = some g → ¬ Cu c vb V0 g := fun g h hc => by have := (hl7 g h).1; rcases hc with h1 | h1 | h1; omega; omega; exact a07 g h1 h
              have h9n : ∀ g, u9.ownBlock = some g → ¬ Cu c vb V0 g := fun g h hc => by have := (hl9 g h).1; rcases hc with h1 | h1 | h1; omega; omega; exact a09 g h1 h
              replace H7 := Lib.hid (ownsRow_kept H7.out hKp h7n)
              replace H9 := Lib.hid (ownsRow_kept H9.out hKp h9n)
              replace hBc := hBc.trans hBp
              have a07' : Ap V' u7 := ap_new a07 hob (fun g h => by have := (hl7 g h).2; omega)
              have a09' : Ap V' u9 := ap_new a09 hob (fun g h => by have := (hl9 g h).2; omega)
              replace HS := Lib.hid hS'
              clear hKp hBp h7n h9n hob hS' a07 a09 hcu hl0
              go_wp2_with fail
              refine (pick_any dd.l0 (dd.l0 + dd.l1) tr.lo (by omega) htb.lo _).mono ?_
              rintro e Wq ⟨rfl, hb⟩
              have hpk := pk_in (show dd.l0 ≤ dd.l0 + dd.l1 by omega) htb.lo
              generalize pk dd.l0 (dd.l0 + dd.l1) tr.lo = pv at *
              replace HS := Lib.hid (HS.out.below hb)
              replace H7 := Lib.hid (own_below H7.out hb)
              replace H9 := Lib.hid (own_below H9.out hb)
              replace hBc := hBc.trans (hb.mono (by have := hBc.size; omega))
              have hgq : gY < Wq.heap.size := Nat.lt_of_lt_of_le nY hb.size
              clear hb D3 D4 L0 L1 Y0
              have hmaxF : ∀ tys ty w, (Builtin.max_ tys ty #[.int .i64 film, .int .i64 pv]).run Try.prog w = .ok (.int .i64 (max film pv)) w := fun _ _ _ => umax2 _ _ _ _ _ _
              go_wp2_with (at_builtin; refine wpList_append_own_at _ rfl (.tmp 114) (.tmp 121) 35 rfl bw 3 j0 (.int .i64 0) 1 8 Try.underlying35 hj0 hy0 hy1 hy2 rfl (by decide) u7 ls.length (intsV ls) rfl (World.ownsRow.alloc H7.out _) ⟨Wq.heap.size, 0, none⟩ 1 1 [.int .i64 (max film pv)] rfl rfl ?_ ?_ ?_ ?_ ?_ ?_)
              case refine_6 =>
                intro V7 Wr hown' hgrow _ hat
                have hKg : Kept (fun i => u7.ownBlock = some i) Wq Wr := (Kept.of_below' ((Below.refl _ _).alloc (Nat.le_refl _) _) _).trans (Kept.of_grown hgrow)
                have hcg : Below c Wq Wr := ((Below.refl c Wq).alloc (by omega) _).grown hgrow (by simp; omega) (fun j hj => by have := (hl7 j hj).1; omega)
                have hnu : ∀ i, i < bw → ¬ u7.ownBlock = some i := fun i hi h => by have := (hl7 i h).1; omega
                have hlV := World.ownsRow.lt HS.out.2.1.2
                have hS2 := HS.out.kept hKg (hnu _ (by omega)) (hnu _ (by omega)) (hnu _ (by omega)) (fun g hg h => a07' g hg h) (fun i hi => hnu _ (by omega))
                have hat2 : V7.ownBlock = u7.ownBlock ∨ ∃ g, V7.ownBlock = some g ∧ Wq.heap.size ≤ g := by rcases hat with h | h; exact .inl h; exact .inr ⟨_, h, by simp⟩
                have h9' := ownsRow_kept H9.out hKg (fun g h h2 => a79 g h2 h)
                have ap07 : Ap V7 V' := ap_new a07'.symm hat2 (fun g h => (hlV g h).2)
                have ap79 : Ap V7 u9 := ap_new a79 hat2 (fun g h => by have := (hl9 g h).2; omega)
                have hok2 := vt_pour hok (by omega) hdb.wa hdb.su ⟨l00, l10, l01, l11⟩ hpk
                have HV2 : Hid (VtS bw c tk cap vb bw gv (k + 1) V7 u9 film alone spoils Wr) := Lib.hid ⟨_, _, _, _, _, _, _, _, V', hok2, hS2, by simpa [intsV_append, intsV] using hown', h9', ap07.symm, a09', ap79⟩
                replace hBc := hBc.trans hcg
                have hbr2 : bw < Wr.heap.size := by have := hKg.1; omega
                clear hKg hcg hnu hlV hS2 hat2 h9' ap07 ap79 hok2 hown' hgrow hat HS H7 H9 hok a07' a09' a79 hmaxF hpk
                have wN : IntKind.i64.wrap ((k : Int) + 1) = ((k + 1 : Nat) : Int) := IntWalk.i64_in _ (by omega)
                go_wp2_with fail
                go_roundw
                case rel => exact ⟨k + 1, film, alone, spoils, by omega, by go_num, rfl, rfl, rfl, HV2, hbr2, hBc⟩
                case measure => simp [RowKit.intOf]; omega
              all_goals first
                | (intro j u hj; rcases j with _ | j <;> simp at hj <;> subst hj <;> exact (cell_at _ _ _ _ _ (by simp)))
                | (simp [Value.oneCell']; done)
                | (unfold maxLen; omega)
                | omega
                | (simp; omega)
        · as_aux_lemma =>
            obtain rfl : k = n := by omega
            obtain ⟨ls, hs, xs, T, p1, p2, fl, fh, V0, hok, hS, ho7, ho9, a07, a09, a79⟩ := HV.out
            clear HV HR HX hlt hk
            have htm := hok.time
            have hll := hok.ll
            have hfi := hok.film
            have hhl := hok.hl
            have hxl : xs.length = ls.length := hok.lots.1
            have ct := tell_st1 hS (fun x hx => ⟨(hok.ms x hx).1, (hok.ms x hx).2.1, Int.le_trans (hok.ms x hx).2.2 (by omega)⟩) (by omega) (by omega)
            rw [hxl] at ct
            have CT := Lib.hid ct
            clear ct hS a07 a09 a79
            have hlu := lots_hull hok.lots (by omega) (by omega)
            have HLH : Hid (∀ (j : Nat) (l : Int), ls[j]? = some l → (huL (xs.map gm) ≤ l ∧ l ≤ huH (xs.map gm)) ∧ 0 ≤ l ∧ l ≤ 100000) := Lib.hid (fun j l h => ⟨hlu j l h, by
              have hj : j < ls.length := (List.getElem?_eq_some_iff.1 h).1
              have := hok.lots.2 j _ l (List.getElem?_eq_getElem (by rw [hxl]; exact hj)) h
              omega⟩)
            clear hlu
            have hcn := lots_count xs ls _ hok.lots
            obtain ⟨po, su, hkp, hc1, hc2⟩ := hours_end hok.hours (by omega)
            have CK := Lib.hid (fun (v v2 : Value) (W : World) (h1 : SetAt W.heap.size W v kRows) (h2 : SetAt W.heap.size W v2 hs) => keeps_any v kRows 1000 1 2 0 0 v2 hs W (by decide) h1 (by omega) h2)
            rw [hkp] at CK
            simp only [kV] at CK
            clear hkp
            generalize huL (xs.map gm) = tl at *
            generalize huH (xs.map gm) = th at *
            generalize huL (xs.map (ag T)) = al at *
            generalize huH (xs.map (ag T)) = ah at *
            generalize cntL (fun l => decide (1000 ≤ l.hi)) xs = cp at *
            generalize cntL (fun l => decide (1000 ≤ l.lo)) xs = cs at *
            generalize (lotSum xs).1 = ta at *
            generalize (lotSum xs).2 = tsg at *
            have tf1 : decide (film < fl) = false := by simp; omega
            have tf2 : decide (fh < film) = false := by simp; omega
            have H7 := Lib.hid ho7
            have H9 := Lib.hid ho9
            clear ho7 ho9 hok hxl
            go_wp2_with fail
            refine CT.out.mono ?_
            rintro e Wt ⟨rfl, hb⟩
            replace H7 := Lib.hid (own_below H7.out hb)
            replace H9 := Lib.hid (own_below H9.out hb)
            replace hBc := hBc.trans (hb.mono (by omega))
            have hbt : bw < Wt.heap.size := Nat.lt_of_lt_of_le hbr hb.size
            clear hb CT hbr
            obtain ⟨A7, c7, rfl⟩ : ∃ A c, u7 = .slice A ls.length c := by rcases H7.out.2 with ⟨h, h0⟩ | ⟨g, cp, _, h, _⟩; exact ⟨_, _, by rw [h, h0]⟩; exact ⟨_, _, h⟩
            go_wp2_with fail
            have B3 : (Wt.alloc (Obj.cells #[.int .i64 ta, .int .i64 tsg, .int .i64 (ls.length : Int), .int .i64 tl, .int .i64 th, .int .i64 al, .int .i64 ah, .int .i64 fl, .int .i64 fh, .int .i64 cp, .int .i64 cs] 52)).cell? ⟨Wt.heap.size, 3, none⟩ = some (.int .i64 tl) := cell_new _ _ _ 3
            have B4 : (Wt.alloc (Obj.cells #[.int .i64 ta, .int .i64 tsg, .int .i64 (ls.length : Int), .int .i64 tl, .int .i64 th, .int .i64 al, .int .i64 ah, .int .i64 fl, .int .i64 fh, .int .i64 cp, .int .i64 cs] 52)).cell? ⟨Wt.heap.size, 4, none⟩ = some (.int .i64 th) := cell_new _ _ _ 4
            have B9 : (Wt.alloc (Obj.cells #[.int .i64 ta, .int .i64 tsg, .int .i64 (ls.length : Int), .int .i64 tl, .int .i64 th, .int .i64 al, .int .i64 ah, .int .i64 fl, .int .i64 fh, .int .i64 cp, .int .i64 cs] 52)).cell? ⟨Wt.heap.size, 9, none⟩ = some (.int .i64 cp) := cell_new _ _ _ 9
            have B10 : (Wt.alloc (Obj.cells #[.int .i64 ta, .int .i64 tsg, .int .i64 (ls.length : Int), .int .i64 tl, .int .i64 th, .int .i64 al, .int .i64 ah, .int .i64 fl, .int .i64 fh, .int .i64 cp, .int .i64 cs] 52)).cell? ⟨Wt.heap.size, 10, none⟩ = some (.int .i64 cs) := cell_new _ _ _ 10
            have nB : Wt.heap.size < (Wt.alloc (Obj.cells #[.int .i64 ta, .int .i64 tsg, .int .i64 (ls.length : Int), .int .i64 tl, .int .i64 th, .int .i64 al, .int .i64 ah, .int .i64 fl, .int .i64 fh, .int .i64 cp, .int .i64 cs] 52)).heap.size := by simp
            have hbA := (Below.refl Wt.heap.size Wt).alloc (Nat.le_refl _) (Obj.cells #[.int .i64 ta, .int .i64 tsg, .int .i64 (ls.length : Int), .int .i64 tl, .int .i64 th, .int .i64 al, .int .i64 ah, .int .i64 fl, .int .i64 fh, .int .i64 cp, .int .i64 cs] 52)
            replace H7 := Lib.hid (own_below H7.out hbA)
            replace H9 := Lib.hid (own_below H9.out hbA)
            replace hBc := hBc.trans (hbA.mono (by omega))
            replace hbt := Nat.lt_of_lt_of_le hbt hbA.size
            clear hbA
            generalize Wt.alloc (Obj.cells #[.int .i64 ta, .int .i64 tsg, .int .i64 (ls.length : Int), .int .i64 tl, .int .i64 th, .int .i64 al, .int .i64 ah, .int .i64 fl, .int .i64 fh, .int .i64 cp, .int .i64 cs] 52) = Wu at *
            generalize Wt.heap.size = gB at *
            have c0 : cntI (ls.take 0) = 0 := by simp [cntI]
            go_loopw [26, 25] (fun i26 p25 wr => ∃ j : Nat, j ≤ ls.length ∧ i26 = .int .i64 (j : Int) ∧ p25 = .int .i64 (cntI (ls.take j)) ∧ wr.cell? ⟨gB, 3, none⟩ = some (.int .i64 tl) ∧ wr.cell? ⟨gB, 4, none⟩ = some (.int .i64 th) ∧ wr.cell? ⟨gB, 9, none⟩ = some (.int .i64 cp) ∧ wr.cell? ⟨gB, 10, none⟩ = some (.int .i64 cs) ∧ gB < wr.heap.size ∧ Hid (wr.ownsRow bw 3 1 (.slice A7 ls.length c7) ls.length (intsV ls)) ∧ Hid (wr.ownsRow bw 31 2 u9 hs.length (flat hs)) ∧ bw < wr.heap.size ∧ Below c W4 wr) (fun i26 _ _ => ls.length - (RowKit.intOf i26).toNat)
            case atStart => exact ⟨0, Nat.zero_le _, rfl, by rw [c0], B3, B4, B9, B10, nB, H7, H9, hbt, hBc⟩
            case round =>
              clear B3 B4 B9 B10 nB H7 H9 hbt hBc
              obtain ⟨j, hj, rfl, rfl, B3, B4, B9, B10, nB, H7, H9, hbt, hBc⟩ := hrel
              generalize wr = Wv at *
              by_cases hjl : j < ls.length
              · obtain ⟨l, hl⟩ : ∃ p, ls[j]? = some p := ⟨_, List.getElem?_eq_getElem hjl⟩
                obtain ⟨⟨hl1, hl2⟩, hl3, hl4⟩ := HLH.out j l hl
                obtain ⟨g7, cc, hform, hb7, hg7⟩ := World.ownsRow.form H7.out (by omega)
                injection hform with hA hB2 hC
                subst hA
                subst hC
                have M := (World.ownsRow.cellAt H7.out j (by omega)).trans (show (intsV ls)[j]? = some (.int .i64 l) by simp only [intsV, List.getElem?_map, hl, Option.map_some])
                have hcs : cntI (ls.take (j + 1)) = cntI (ls.take j) + (if 1000 ≤ l then 1 else 0) := by rw [List.take_add_one, hl, Option.toList_some, cntI_snoc]
                have hcb := cntI_bd (ls.take j)
                have hcb2 : ((ls.take j).length : Int) ≤ 20 := by have := List.length_take_le j ls; omega
                generalize cntI (ls.take j) = cj at *
                have d1 : decide (l < tl) = false := by simp; omega
                have d2 : decide (th < l) = false := by simp; omega
                have r0 : (0 : Int) ≤ (j : Int) := by omega
                have r1 : (j : Int) < (ls.length : Int) := by omega
                have r2 : decide ((j : Int) < (ls.length : Int)) = true := by simp; omega
                have wj : IntKind.i64.wrap ((j : Int) + 1) = ((j + 1 : Nat) : Int) := IntWalk.i64_in _ (by omega)
                have wc : IntKind.i64.wrap (cj + 1) = cj + 1 := IntWalk.i64_in _ (by omega)
                obtain ⟨q, hq⟩ : ∃ q, decide (1000 ≤ l) = q := ⟨_, rfl⟩
                go_wp2_with fail
                have hBW : Wv.heap.size ≤ Wv.heap.size := Nat.le_refl _
                refine wp_region_held_drew (S := fun w' => w'.cell? ⟨g7, j, none⟩ = some (.int .i64 l) ∧ w'.cell? ⟨gB, 3, none⟩ = some (.int .i64 tl) ∧ w'.cell? ⟨gB, 4, none⟩ = some (.int .i64 th) ∧ True) (by kernel_rfl) ?_ (fun hHeld => ?_)
                focus (exact ⟨M, B3, B4, trivial⟩)
                have hL : Below Wv.heap.size Wv Wv.drew := Below.drew (Below.refl _ _)
                replace M : Wv.drew.cell? ⟨g7, j, none⟩ = some (.int .i64 l) := M
                replace B3 : Wv.drew.cell? ⟨gB, 3, none⟩ = some (.int .i64 tl) := B3
                replace B4 : Wv.drew.cell? ⟨gB, 4, none⟩ = some (.int .i64 th) := B4
                replace B9 : Wv.drew.cell? ⟨gB, 9, none⟩ = some (.int .i64 cp) := B9
                replace B10 : Wv.drew.cell? ⟨gB, 10, none⟩ = some (.int .i64 cs) := B10
                replace hg7 : g7 < Wv.drew.heap.size := hg7
                replace nB : gB < Wv.drew.heap.size := nB
                generalize hWd : Wv.drew = wd43 at hHeld hL M B3 B4 B9 B10 hg7 nB  ⊢
                clear hWd
                refine take_slot (i := 0) (d := 238) (v := ?_) rfl rfl (by kernel_rfl) (by kernel_rfl) (by kernel_rfl) (fun _ _ _ h => h) (Or.inl ⟨by rfl, ?_⟩) (by assumption) ?_
                rotate_left 1
                focus (intro wS hSw; (try dsimp only at hSw); go_simp; try with_reducible rfl)
                try simp only [List.setIfInBounds_toArray, List.set_cons_zero, List.set_cons_succ]
                refine take_slot (i := 1) (d := 239) (v := ?_) rfl rfl (by kernel_rfl) (by kernel_rfl) (by kernel_rfl) (fun _ _ _ h => h) (Or.inl ⟨by rfl, ?_⟩) (by assumption) ?_
                rotate_left 1
                focus (intro wS hSw; (try dsimp only at hSw); go_simp; try with_reducible rfl)
                try simp only [List.setIfInBounds_toArray, List.set_cons_zero, List.set_cons_succ]
                refine take_slot (i := 2) (d := 240) (v := ?_) rfl rfl (by kernel_rfl) (by kernel_rfl) (by kernel_rfl) (fun _ _ _ h => h) (Or.inl ⟨by rfl, ?_⟩) (by assumption) ?_
                rotate_left 1
                focus (intro wS hSw; (try dsimp only at hSw); go_simp; try with_reducible rfl)
                try simp only [List.setIfInBounds_toArray, List.set_cons_zero, List.set_cons_succ]
                refine take_slot (i := 3) (d := 241) (v := ?_) rfl rfl (by kernel_rfl) (by kernel_rfl) (by kernel_rfl) (fun _ _ _ h => h) (Or.inl ⟨by rfl, ?_⟩) (by assumption) ?_
                rotate_left 1
                focus (intro wS hSw; (try dsimp only at hSw); go_simp; try with_reducible rfl)
                try simp only [List.setIfInBounds_toArray, List.set_cons_zero, List.set_cons_succ]
                refine take_slot (i := 4) (d := 242) (v := ?_) rfl rfl (by kernel_rfl) (by kernel_rfl) (by kernel_rfl) (fun _ _ _ h => h) (Or.inl ⟨by rfl, ?_⟩) (by assumption) ?_
                rotate_left 1
                focus (intro wS hSw; (try dsimp only at hSw); go_simp; try with_reducible rfl)
                try simp only [List.setIfInBounds_toArray, List.set_cons_zero, List.set_cons_succ]
                refine take_slot (i := 5) (d := 243) (v := ?_) rfl rfl (by kernel_rfl) (by kernel_rfl) (by kernel_rfl) (fun _ _ _ h => h) (Or.inl ⟨by rfl, ?_⟩) (by assumption) ?_
                rotate_left 1
                focus (intro wS hSw; (try dsimp only at hSw); go_simp; try with_reducible rfl)
                try simp only [List.setIfInBounds_toArray, List.set_cons_zero, List.set_cons_succ]
                refine take_slot (i := 6) (d := 244) (v := ?_) rfl rfl (by kernel_rfl) (by kernel_rfl) (by kernel_rfl) (fun _ _ _ h => h) (Or.inl ⟨by rfl, ?_⟩) (by assumption) ?_
                rotate_left 1
                focus (intro wS hSw; (try dsimp only at hSw); go_simp; try with_reducible rfl)
                try simp only [List.setIfInBounds_toArray, List.set_cons_zero, List.set_cons_succ]
                refine take_slot (i := 7) (d := 245) (v := ?_) rfl rfl (by kernel_rfl) (by kernel_rfl) (by kernel_rfl) (fun _ _ _ h => h) (Or.inl ⟨by rfl, ?_⟩) (by assumption) ?_
                rotate_left 1
                focus (intro wS hSw; (try dsimp only at hSw); go_simp; try with_reducible rfl)
                try simp only [List.setIfInBounds_toArray, List.set_cons_zero, List.set_cons_succ]
                refine take_slot (i := 8) (d := 246) (v := ?_) rfl rfl (by kernel_rfl) (by kernel_rfl) (by kernel_rfl) (fun _ _ _ h => h) (Or.inl ⟨by rfl, ?_⟩) (by assumption) ?_
                rotate_left 1
                focus (intro wS hSw; (try dsimp only at hSw); go_simp; try with_reducible rfl)
                try simp only [List.setIfInBounds_toArray, List.set_cons_zero, List.set_cons_succ]
                refine take_slot (i := 9) (d := 247) (v := ?_) rfl rfl (by kernel_rfl) (by kernel_rfl) (by kernel_rfl) (fun _ _ _ h => h) (Or.inl ⟨by rfl, ?_⟩) (by assumption) ?_
                rotate_left 1
                focus (intro wS hSw; (try dsimp only at hSw); go_simp; try with_reducible rfl)
                try simp only [List.setIfInBounds_toArray, List.set_cons_zero, List.set_cons_succ]
                refine take_slot (i := 10) (d := 248) (v := ?_) rfl rfl (by kernel_rfl) (by kernel_rfl) (by kernel_rfl) (fun _ _ _ h => h) (Or.inl ⟨by rfl, ?_⟩) (by assumption) ?_
                rotate_left 1
                focus (intro wS hSw; (try dsimp only at hSw); go_simp; try with_reducible rfl)
                try simp only [List.setIfInBounds_toArray, List.set_cons_zero, List.set_cons_succ]
                refine take_slot (i := 11) (d := 249) (v := ?_) rfl rfl (by kernel_rfl) (by kernel_rfl) (by kernel_rfl) (fun _ _ _ h => h) (Or.inl ⟨by rfl, ?_⟩) (by assumption) ?_
                rotate_left 1
                focus (intro wS hSw; (try dsimp only at hSw); go_simp; try with_reducible rfl)
                try simp only [List.setIfInBounds_toArray, List.set_cons_zero, List.set_cons_succ]
                refine take_slot (i := 12) (d := 250) (v := ?_) rfl rfl (by kernel_rfl) (by kernel_rfl) (by kernel_rfl) (fun _ _ _ h => h) (Or.inl ⟨by rfl, ?_⟩) (by assumption) ?_
                rotate_left 1
                focus (intro wS hSw; (try dsimp only at hSw); go_simp; try with_reducible rfl)
                try simp only [List.setIfInBounds_toArray, List.set_cons_zero, List.set_cons_succ]
                refine take_slot (i := 13) (d := 251) (v := ?_) rfl rfl (by kernel_rfl) (by kernel_rfl) (by kernel_rfl) (fun _ _ _ h => h) (Or.inl ⟨by rfl, ?_⟩) (by assumption) ?_
                rotate_left 1
                focus (intro wS hSw; (try dsimp only at hSw); go_simp; try with_reducible rfl)
                try simp only [List.setIfInBounds_toArray, List.set_cons_zero, List.set_cons_succ]
                refine take_slot (i := 14) (d := 252) (v := ?_) rfl rfl (by kernel_rfl) (by kernel_rfl) (by kernel_rfl) (fun _ _ _ h => h) (Or.inl ⟨by rfl, ?_⟩) (by assumption) ?_
                rotate_left 1
                focus (intro wS hSw; (try dsimp only at hSw); go_simp; try with_reducible rfl)
                try simp only [List.setIfInBounds_toArray, List.set_cons_zero, List.set_cons_succ]
                refine take_slot (i := 15) (d := 253) (v := ?_) rfl rfl (by kernel_rfl) (by kernel_rfl) (by kernel_rfl) (fun _ _ _ h => h) (Or.inl ⟨by rfl, ?_⟩) (by assumption) ?_
                rotate_left 1
                focus (intro wS hSw; (try dsimp only at hSw); go_simp; try with_reducible rfl)
                try simp only [List.setIfInBounds_toArray, List.set_cons_zero, List.set_cons_succ]
                refine take_slot (i := 16) (d := 254) (v := ?_) rfl rfl (by kernel_rfl) (by kernel_rfl) (by kernel_rfl) (fun _ _ _ h => h) (Or.inl ⟨by rfl, ?_⟩) (by assumption) ?_
                rotate_left 1
                focus (intro wS hSw; (try dsimp only at hSw); go_simp; try with_reducible rfl)
                try simp only [List.setIfInBounds_toArray, List.set_cons_zero, List.set_cons_succ]
                refine take_slot (i := 17) (d := 255) (v := ?_) rfl rfl (by kernel_rfl) (by kernel_rfl) (by kernel_rfl) (fun _ _ _ h => h) (Or.inl ⟨by rfl, ?_⟩) (by assumption) ?_
                rotate_left 1
                focus (intro wS hSw; (try dsimp only at hSw); go_simp; try with_reducible rfl)
                try simp only [List.setIfInBounds_toArray, List.set_cons_zero, List.set_cons_succ]
                refine wpAnyH_done (by kernel_rfl) ?_ _
                replace H7 := Lib.hid (own_below H7.out hL)
                replace H9 := Lib.hid (own_below H9.out hL)
                replace hbt := Nat.lt_of_lt_of_le hbt hL.size
                replace hBc := hBc.trans (hL.mono (by have := hBc.size; omega))
                clear hHeld hL hBW
                cases q
                · have hcs2 : cntI (ls.take (j + 1)) = cj := by rw [hcs]; rw [if_neg (by simpa using hq)]; simp
                  clear hcs
                  go_wp2_with fail
                  go_roundw
                  case rel => exact ⟨j + 1, by omega, by go_num, by rw [hcs2], B3, B4, B9, B10, nB, H7, H9, hbt, hBc⟩
                  case measure => simp [RowKit.intOf]; omega
                · have hcs2 : cntI (ls.take (j + 1)) = cj + 1 := by rw [hcs]; rw [if_pos (by simpa using hq)]
                  clear hcs
                  go_wp2_with fail
                  go_roundw
                  case rel => exact ⟨j + 1, by omega, by go_num, by rw [hcs2], B3, B4, B9, B10, nB, H7, H9, hbt, hBc⟩
                  case measure => simp [RowKit.intOf]; omega
              · obtain rfl : j = ls.length := by omega
                have r2 : decide ((ls.length : Int) < (ls.length : Int)) = false := by simp
                rw [List.take_length]
                clear HLH tf1 tf2
                generalize cntI ls = ci at *
                have e1 : decide (cs ≤ ci) = true := by simp; omega
                have e2 : decide (ci ≤ cp) = true := by simp; omega
                obtain ⟨z1, hz1'⟩ : ∃ q, decide (spoils < 0) = q := ⟨_, rfl⟩
                obtain ⟨z2, hz2'⟩ : ∃ q, decide (su < 0) = q := ⟨_, rfl⟩
                have k1 : z1 = false → decide (0 ≤ po) = true ∧ decide (po ≤ spoils) = true := fun h => by subst h; simp at hz1' ⊢; omega
                have k2 : z2 = false → decide (0 ≤ spoils) = true ∧ decide (spoils ≤ su) = true := fun h => by subst h; simp at hz2' ⊢; omega
                clear hcn hc1 hc2 H7
                go_wp2_with fail
                refine (rules_any _).mono ?_
                rintro e Wa ⟨vr, rfl, hvr, hb⟩
                replace B9 := cell_next hb nB B9
                replace B10 := cell_next hb nB B10
                replace nB := Nat.lt_of_lt_of_le nB hb.size
                replace H9 := Lib.hid (own_below H9.out hb)
                replace hBc := hBc.trans (hb.mono (by have := hBc.size; omega))
                clear hb B3 B4
                have HS9 := Lib.hid (own_row hs hs.length rfl u9 Wa H9.out).set
                go_wp2_with fail
                refine (CK.out _ _ _ hvr HS9.out).mono ?_
                rintro e Wb ⟨rfl, hb⟩
                replace B9 := cell_next hb nB B9
                replace B10 := cell_next hb nB B10
                replace hBc := hBc.trans (hb.mono (by have := hBc.size; omega))
                clear hb CK hvr HS9 H9
                replace hB := hB.trans (hBc.mono nW)
                cases z1 <;> cases z2
                all_goals
                  try (obtain ⟨k11, k12⟩ := k1 rfl)
                  try (obtain ⟨k21, k22⟩ := k2 rfl)
                  clear k1 k2
                  go_wp2_with fail
                  refine (CN.out _).mono ?_
                  rintro e Wz ⟨rfl, hb⟩
                  go_wp2_with fail
                  go_ret
                  exact ⟨rfl, hB.trans (hb.mono hB.size)⟩
    · go_enter Try.func3, Try.ntmps3
      go_wp2_with fail
      refine (CN.out _).mono ?_
      rintro e w1 ⟨rfl, hb⟩
      go_wp2_with fail
      go_ret
      exact ⟨rfl, hb⟩
  · go_enter Try.func3, Try.ntmps3
    go_wp2_with fail
    refine (CN.out _).mono ?_
    rintro e w1 ⟨rfl, hb⟩
    go_wp2_with fail
    go_ret
    exact ⟨rfl, hb⟩
end Go.Proofs.Ytfdaiififoomoaa
