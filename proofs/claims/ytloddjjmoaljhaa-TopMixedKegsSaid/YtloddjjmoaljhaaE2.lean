/- Contracts of package barrel: kegs in memory; whether all are valid. -/
import Derived.Test.YtloddjjmoaljhaaE1
namespace Go.Proofs.Ytloddjjmoaljhaa
open Go.RowKit Go.Lib Go.Shelf
set_option linter.unusedVariables false
set_option linter.unusedSimpArgs false
attribute [local go_sem ↓] Go.wp_at_zero Go.wp_at_succ

/-- kegs in memory -/
def KsAt (B : Nat) (w : World) (v : Value) (xs : List Kg) : Prop :=
  ∃ A c, v = .slice A xs.length c ∧ xs.length ≤ c ∧ (0 < xs.length → ∃ g off, A = some ⟨g, off, none⟩ ∧ g < B ∧ ∀ k p, xs[k]? = some p → ∀ j, j < 4 → w.cell? ⟨g, off + k * 4 + j, none⟩ = (cKg p)[j]?)
theorem KsAt.below {B B' : Nat} {w w' : World} {v : Value} {xs : List Kg} (h : KsAt B w v xs) (hb : Below B' w w') (hB : B ≤ B') : KsAt B w' v xs := by
  obtain ⟨A, c, rfl, hc, h⟩ := h
  refine ⟨A, c, rfl, hc, fun hn => ?_⟩
  obtain ⟨g, off, rfl, hg, hr⟩ := h hn
  exact ⟨g, off, rfl, hg, fun k p hk j hj => (hb.cell (p := ⟨g, off + k * 4 + j, none⟩) (Nat.lt_of_lt_of_le hg hB)).trans (hr k p hk j hj)⟩
theorem kegs_no {xs : List Kg} {k : Nat} {p : Kg} (h : xs[k]? = some p) (hp : kgB p = false) : xs.all kgB = false := by
  rw [List.all_eq_false]
  exact ⟨p, List.mem_of_getElem? h, by simp [hp]⟩
theorem kegs_snoc {xs : List Kg} {k : Nat} {p : Kg} (h : xs[k]? = some p) : (xs.take (k + 1)).all kgB = ((xs.take k).all kgB && kgB p) := by
  rw [List.take_add_one, h, Option.toList_some, List.all_append]
  simp
set_option maxHeartbeats 1000000 in
theorem wrongKeg_any (p : Kg) (w : World) : Calls Try.prog 51 #[.agg (cKg p)] w fun e w' => e = .returned (.bool (!kgB p)) ∧ Below w.heap.size w w' := by
  have c := Lib.hid (validKeg_any p)
  generalize kgB p = r at *
  obtain ⟨a, s, l, f⟩ := p
  simp only [cKg] at *
  go_enter Try.func51, Try.ntmps51
  go_wp2_with fail
  refine (c.out _).mono ?_
  rintro e w1 ⟨rfl, hb⟩
  have hB := below1 hb
  clear hb
  go_wp2_with fail
  go_ret
  exact ⟨rfl, hB⟩
theorem enters_wrongKeg : ∀ args w, (callFunc 51 args).run Try.prog w = .ok (.enter 51 args) w := enters_of Try.func51 (by kernel_rfl) rfl
set_option maxRecDepth 20000 in
set_option maxHeartbeats 2000000 in
theorem indexKeg_any (v : Value) (xs : List Kg) (w : World) (hl : xs.length ≤ 1000000000000) (hv : KsAt w.heap.size w v xs) :
    Calls Try.prog 67 #[v, .func (Fn.func 51) #[] #[]] w (IxPost (xs.all kgB) w) := by
  have HE := enters_wrongKeg
  obtain ⟨A, c, rfl, hlc, hr⟩ := hv
  have HN := Lib.hid (fun (k : Nat) (p : Kg) (h : xs[k]? = some p) hp => kegs_no h hp)
  have HC := Lib.hid (fun (p : Kg) (W : World) => wrongKeg_any p W)
  obtain ⟨r, hrr⟩ : ∃ r, xs.all kgB = r := ⟨_, rfl⟩
  rw [hrr] at HN ⊢
  have HB := Lib.hid hrr
  clear hrr
  obtain ⟨n, hn⟩ : ∃ n, xs.length = n := ⟨_, rfl⟩
  rw [hn] at hr hl hlc ⊢
  have Hn := Lib.hid hn
  have HR := Lib.hid hr
  clear hr hn
  go_enter Try.func67, Try.ntmps67
  go_wp2_with fail
  go_loopw [8] (fun i wr => ∃ k : Nat, k ≤ n ∧ i = .int .i64 k ∧ Hid ((xs.take k).all kgB = true) ∧ Below w.heap.size w wr) (fun i _ => n - (RowKit.intOf i).toNat)
  case atStart => exact ⟨0, Nat.zero_le _, rfl, Lib.hid rfl, Below.refl _ _⟩
  case round =>
    obtain ⟨k, hk, rfl, ho, hbr⟩ := hrel
    by_cases hlt : (k : Int) < (n : Int)
    · obtain ⟨p, hp⟩ : ∃ p, xs[k]? = some p := ⟨_, List.getElem?_eq_getElem (by rw [Hn.out]; omega)⟩
      obtain ⟨g, off, rfl, hg, hc⟩ := HR.out (by omega)
      have q : ∀ j, j < 4 → wr.cell? ⟨g, off + k * 4 + j, none⟩ = (cKg p)[j]? := fun j hj => (hbr.cell (p := ⟨g, off + k * 4 + j, none⟩) hg).trans (hc k p hp j hj)
      have HNk := Lib.hid (HN.out k p hp)
      have hok : Hid ((xs.take (k + 1)).all kgB = kgB p) := Lib.hid (by rw [kegs_snoc hp, ho.out]; rfl)
      have c1 := Lib.hid (HC.out p wr)
      have q0 : wr.cell? ⟨g, off + k * 4, none⟩ = some (.int .i64 p.a) := q 0 (by omega)
      have q1 : wr.cell? ⟨g, off + k * 4 + 1, none⟩ = some (.int .i64 p.s) := q 1 (by omega)
      have q2 : wr.cell? ⟨g, off + k * 4 + 2, none⟩ = some (.int .i64 p.l) := q 2 (by omega)
      have q3 : wr.cell? ⟨g, off + k * 4 + 3, none⟩ = some (.int .i64 p.f) := q 3 (by omega)
      clear hc hp q
      generalize kgB p = b' at *
      obtain ⟨a, s, l, f⟩ := p
      simp only [cKg] at c1
      dsimp only at q0 q1 q2 q3
      cases b'
      · have E := Lib.hid (HNk.out rfl)
        go_wp2_with fail
        refine c1.out.mono ?_
        rintro e w1 ⟨rfl, hb⟩
        have hB := hbr.trans (hb.mono hbr.size)
        clear hb
        go_wp2_with fail
        go_ret
        exact ⟨_, rfl, by rw [E.out, if_neg (by simp)]; omega, hB⟩
      · go_wp2_with fail
        refine c1.out.mono ?_
        rintro e w1 ⟨rfl, hb⟩
        have hB := hbr.trans (hb.mono hbr.size)
        clear hb q0 q1 q2 q3 c1
        go_wp2_with fail
        go_roundw
        case rel => exact ⟨k + 1, by omega, by go_num, hok, hB⟩
        case measure => simp [RowKit.intOf]; omega
    · obtain rfl : k = n := by omega
      have E : Hid (r = true) := Lib.hid (HB.out.symm.trans (by have h := ho.out; rwa [List.take_of_length_le (by rw [Hn.out]; exact Nat.le_refl _)] at h))
      go_wp2_with fail
      go_ret
      exact ⟨_, rfl, by rw [E.out, if_pos rfl], hbr⟩
set_option maxHeartbeats 400000 in
theorem anyKeg_any (v : Value) (xs : List Kg) (w : World) (hl : xs.length ≤ 1000000000000) (hv : KsAt w.heap.size w v xs) :
    Calls Try.prog 50 #[v, .func (Fn.func 51) #[] #[]] w fun e w' => e = .returned (.bool (!xs.all kgB)) ∧ Below w.heap.size w w' := by
  have c1 := Lib.hid (indexKeg_any v xs w hl hv)
  clear hv
  generalize xs.all kgB = r at *
  go_enter Try.func50, Try.ntmps50
  go_wp2_with fail
  refine c1.out.mono ?_
  rintro e w1 ⟨i, rfl, hi, hb⟩
  cases r
  · obtain ⟨h1, h2⟩ : 0 ≤ i ∧ i ≤ 9000000000000000000 := by simpa using hi
    clear hi
    go_wp2_with fail
    go_ret
    exact ⟨by simp [*], hb⟩
  · obtain rfl : i = -1 := by simpa using hi
    go_wp2_with fail
    go_ret
    exact ⟨by simp, hb⟩

theorem KsAt.mono {B B' : Nat} {w : World} {v : Value} {xs : List Kg} (h : KsAt B w v xs) (hB : B ≤ B') : KsAt B' w v xs := by
  obtain ⟨A, c, rfl, hc, h⟩ := h
  refine ⟨A, c, rfl, hc, fun hn => ?_⟩
  obtain ⟨g, off, rfl, hg, hr⟩ := h hn
  exact ⟨g, off, rfl, by omega, hr⟩
/-- the error of kegs -/
def ckE (xs : List Kg) : Int := if 12 < xs.length then 5 else if xs.all kgB then 0 else 2
set_option maxHeartbeats 1000000 in
theorem checkKegs_any (v : Value) (xs : List Kg) (w : World) (hl : xs.length ≤ 1000000000000) (hv : KsAt w.heap.size w v xs) :
    Calls Try.prog 24 #[v] w fun e w' => e = .returned (.int .i64 (ckE xs)) ∧ Below w.heap.size w w' := by
  have c1 := Lib.hid (anyKeg_any v xs w hl hv)
  obtain ⟨A, c, rfl, hlc, hr⟩ := hv
  clear hr
  have hE : Hid (ckE xs = if 12 < xs.length then 5 else if xs.all kgB then 0 else 2) := Lib.hid rfl
  generalize ckE xs = r at *
  generalize xs.all kgB = b at *
  generalize xs.length = n at *
  by_cases h1 : 12 < n
  · have E : Hid (r = 5) := Lib.hid (by rw [hE.out, if_pos h1])
    have t0 : decide ((12 : Int) < (n : Int)) = true := by simp; omega
    go_enter Try.func24, Try.ntmps24
    go_wp2_with fail
    go_ret
    exact ⟨ret_int E.out.symm, Below.refl _ _⟩
  · have t0 : decide ((12 : Int) < (n : Int)) = false := by simp; omega
    cases b
    all_goals
      first
        | have E : Hid (r = 2) := Lib.hid (by rw [hE.out, if_neg h1]; rfl)
        | have E : Hid (r = 0) := Lib.hid (by rw [hE.out, if_neg h1]; rfl)
      go_enter Try.func24, Try.ntmps24
      go_wp2_with fail
      refine c1.out.mono ?_
      rintro e w1 ⟨rfl, hb⟩
      go_wp2_with fail
      go_ret
      exact ⟨ret_int E.out.symm, hb⟩
end Go.Proofs.Ytloddjjmoaljhaa
