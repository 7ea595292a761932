/- Contracts: ranges brought together, the least range with all. -/
import Derived.Test.YtloddjjmoaljhaaC3
namespace Go.Proofs.Ytloddjjmoaljhaa
open Go.RowKit Go.Lib
set_option linter.unusedVariables false
set_option linter.unusedSimpArgs false

/-- the ranges xs lie one after another in block g, from off on -/
def RRd (w : World) (g off : Nat) (xs : List (Int × Int)) : Prop :=
  ∀ k p, xs[k]? = some p → w.cell? ⟨g, off + k * 2, none⟩ = some (.int .i64 p.1) ∧ w.cell? ⟨g, off + k * 2 + 1, none⟩ = some (.int .i64 p.2)
theorem RRd.keep {w w' : World} {g off : Nat} {xs : List (Int × Int)} (h : RRd w g off xs) (hk : ∀ o, w'.cell? ⟨g, o, none⟩ = w.cell? ⟨g, o, none⟩) : RRd w' g off xs :=
  fun k p hp => ⟨(hk _).trans (h k p hp).1, (hk _).trans (h k p hp).2⟩
theorem RRd.below {w w' : World} {B g off : Nat} {xs : List (Int × Int)} (h : RRd w g off xs) (hb : Below B w w') (hg : g < B) : RRd w' g off xs :=
  h.keep fun o => hb.cell (p := ⟨g, o, none⟩) hg

/-- how two ranges are joined, as the program's function F does it -/
def JoinAt (F : Nat) (J : Int × Int → Int × Int → Int × Int) (D : Int × Int → Prop) : Prop :=
  ∀ (a b : Int × Int) (w : World), D a → D b → Calls Try.prog F #[.agg #[.int .i64 a.1, .int .i64 a.2], .agg #[.int .i64 b.1, .int .i64 b.2]] w fun e w' => e = .returned (.agg #[.int .i64 (J a b).1, .int .i64 (J a b).2]) ∧ Below w.heap.size w w'

set_option maxHeartbeats 1000000 in
theorem together_any (F : Nat) (J : Int × Int → Int × Int → Int × Int) (D : Int × Int → Prop) (hE : ∀ args w, (callFunc F args).run Try.prog w = .ok (.enter F args) w) (hJ : JoinAt F J D) (hD : ∀ a b, D a → D b → D (J a b)) (lo hi : Int) (h0 : D (lo, hi)) (g off : Nat) (xs : List (Int × Int)) (c : Nat) (w : World)
    (hx : ∀ p ∈ xs, D p) (hg : g < w.heap.size) (hr : RRd w g off xs) (hl : xs.length ≤ 1000000) :
    Calls Try.prog 55 #[.agg #[.int .i64 lo, .int .i64 hi], .slice (some ⟨g, off, none⟩) xs.length c, .func (Fn.func F) #[] #[]] w fun e w' =>
      e = .returned (.agg #[.int .i64 (xs.foldl J (lo, hi)).1, .int .i64 (xs.foldl J (lo, hi)).2]) ∧ Below w.heap.size w w' := by
  obtain ⟨n, hn⟩ : ∃ n, xs.length = n := ⟨_, rfl⟩
  rw [hn] at hl ⊢
  have Hn := Lib.hid hn
  clear hn
  have HJ := Lib.hid hJ
  have HD := Lib.hid hD
  have H0 := Lib.hid h0
  have HX := Lib.hid hx
  have HR := Lib.hid hr
  clear hJ hD h0 hx hr
  go_enter Try.func55, Try.ntmps55
  go_wp2_with fail
  go_loopw [11] (fun i wr => ∃ (k : Nat) (a : Int × Int), k ≤ n ∧ i = .int .i64 k ∧ Hid (a = (xs.take k).foldl J (lo, hi)) ∧ D a ∧ wr.cell? ⟨w.heap.size, 0, none⟩ = some (.int .i64 a.1) ∧ wr.cell? ⟨w.heap.size, 1, none⟩ = some (.int .i64 a.2) ∧ wr.frozen? ⟨w.heap.size, 0, none⟩ = false ∧ wr.frozen? ⟨w.heap.size, 1, none⟩ = false ∧
      wr.cell? ⟨w.heap.size + 1, 0, none⟩ = some (.int .i64 0) ∧ wr.cell? ⟨w.heap.size + 1, 1, none⟩ = some (.int .i64 0) ∧ wr.frozen? ⟨w.heap.size + 1, 0, none⟩ = false ∧ wr.frozen? ⟨w.heap.size + 1, 1, none⟩ = false ∧ w.heap.size + 1 < wr.heap.size ∧ Below w.heap.size w wr) (fun i _ => n - (RowKit.intOf i).toNat)
  case atStart =>
    refine ⟨0, (lo, hi), Nat.zero_le _, rfl, Lib.hid rfl, H0.out, ?_, ?_, ?_, ?_, ?_, ?_, ?_, ?_, ?_, ?_⟩
    all_goals first | (simp; done) | exact ((Below.refl _ _).alloc (Nat.le_refl _) _).alloc (by simp) _
  case round =>
    obtain ⟨k, a, hk, rfl, ha, hDa, c0, c1, f0, f1, d0, d1, e0, e1, hz, hbr⟩ := hrel
    have hz0 : w.heap.size < wr.heap.size := by omega
    have hz0e : w.heap.size ≤ wr.heap.size := by omega
    have hgw : g < wr.heap.size := by omega
    by_cases hlt : k < n
    · have hkl : k < xs.length := by rw [Hn.out]; exact hlt
      obtain ⟨p, hp⟩ : ∃ p, xs[k]? = some p := ⟨_, List.getElem?_eq_getElem hkl⟩
      have hpD : D p := HX.out p (List.mem_of_getElem? hp)
      obtain ⟨q0, q1⟩ := (HR.out.below hbr hg) k p hp
      have hp' := Lib.hid hp
      clear hp
      go_wp2_with fail
      refine (HJ.out a p _ hDa hpD).mono ?_
      rintro e w1 ⟨rfl, hb1⟩
      have hDq := HD.out a p hDa hpD
      have haq : Hid (J a p = (xs.take (k + 1)).foldl J (lo, hi)) := Lib.hid (by rw [List.take_add_one, hp'.out, List.foldl_append, ← ha.out]; rfl)
      generalize J a p = q at *
      have hB1 := below1 hb1
      have hz1 := hB1.size
      replace c0 := cell_next hB1 hz0 c0
      replace c1 := cell_next hB1 hz0 c1
      replace f0 := frozen_next hB1 hz0 f0
      replace f1 := frozen_next hB1 hz0 f1
      replace d0 := cell_next hB1 hz d0
      replace d1 := cell_next hB1 hz d1
      replace e0 := frozen_next hB1 hz e0
      replace e1 := frozen_next hB1 hz e1
      replace hbr := hbr.trans (hB1.mono (by omega))
      clear hb1 hB1 q0 q1
      go_wp2_with fail
      go_roundw
      case rel =>
        refine ⟨k + 1, q, by omega, by go_num, haq, hDq, ?_, ?_, ?_, ?_, ?_, ?_, ?_, ?_, by simp; omega, (hbr.setCell (p := ⟨w.heap.size, 0, none⟩) (Nat.le_refl _) _).setCell (p := ⟨w.heap.size, 1, none⟩) (Nat.le_refl _) _⟩
        all_goals simp [go_sem, *]
      case measure => simp [RowKit.intOf]; omega
    · obtain rfl : k = n := by omega
      have hfin : a = xs.foldl J (lo, hi) := by rw [ha.out, List.take_of_length_le (by rw [Hn.out]; omega)]
      have Hfin := Lib.hid hfin
      clear hfin ha
      go_wp2_with fail
      refine bodyPost_ret (v := .agg #[.int .i64 a.1, .int .i64 a.2]) (by simp [results, Try.results55, go_sem, *]) rfl ⟨by rw [Hfin.out], ?_⟩
      exact (hbr.setCell (by simp) _).setCell (by simp) _
end Go.Proofs.Ytloddjjmoaljhaa

