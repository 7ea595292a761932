/- Contracts: the reference's smallest functions; lists of ranges that read as they are; lists that are the same. -/
import Derived.Test.YtkhongbemoahpaaT8
import Derived.Deep.QuietTactic
import Derived.BigQuiet
namespace Go.Proofs.Ytkhongbemoahpaa
open Go.RowKit Go.Lib Go.Shelf
set_option linter.unusedVariables false
set_option linter.unusedSimpArgs false
attribute [local go_sem ↓] Go.wp_at_zero Go.wp_at_succ

theorem rrun_max2 {P : Program} (tys : Array TypeId) (ty : TypeId) (k : IntKind) (x y : Int) (w : World) : (Builtin.max_ tys ty #[.int k x, .int k y]).run P w = .ok (.int k (max x y)) w := by
  simp [Builtin.max_, Builtin.max2]
  split <;> omega
/-- a slice value that reads as ranges, and has room for them -/
def RowAt (B : Nat) (w : World) (v : Value) (xs : List (Int × Int)) : Prop :=
  ∃ A c, v = .slice A xs.length c ∧ xs.length ≤ c ∧ (0 < xs.length → ∃ g off, A = some ⟨g, off, none⟩ ∧ g < B ∧ RRd w g off xs)
theorem RowAt.set {B : Nat} {w : World} {v : Value} {xs : List (Int × Int)} (h : RowAt B w v xs) : SetAt B w v xs := by
  obtain ⟨A, c, rfl, _, h⟩ := h
  exact ⟨A, c, rfl, h⟩
theorem RowAt.below {B B' : Nat} {w w' : World} {v : Value} {xs : List (Int × Int)} (h : RowAt B w v xs) (hb : Below B' w w') (hB : B ≤ B') : RowAt B w' v xs := by
  obtain ⟨A, c, rfl, hc, h⟩ := h
  refine ⟨A, c, rfl, hc, fun hn => ?_⟩
  obtain ⟨g, off, rfl, hg, hr⟩ := h hn
  exact ⟨g, off, rfl, hg, hr.below hb (by omega)⟩
theorem RowAt.mono {B B' : Nat} {w : World} {v : Value} {xs : List (Int × Int)} (h : RowAt B w v xs) (hB : B ≤ B') : RowAt B' w v xs := by
  obtain ⟨A, c, rfl, hc, h⟩ := h
  refine ⟨A, c, rfl, hc, fun hn => ?_⟩
  obtain ⟨g, off, rfl, hg, hr⟩ := h hn
  exact ⟨g, off, rfl, by omega, hr⟩
theorem RRd.tail {w : World} {g off : Nat} {p : Int × Int} {xs : List (Int × Int)} (h : RRd w g off (p :: xs)) : RRd w g (off + 2) xs := fun k q hq => by
  have := h (k + 1) q (by simpa using hq)
  rw [show off + 2 + k * 2 = off + (k + 1) * 2 from by omega]
  exact this


set_option maxRecDepth 20000 in
set_option maxHeartbeats 2000000 in
theorem lSame_any (u v : Value) (xs : List (Int × Int)) (hl : xs.length ≤ 1000) (w : World) (hu : SetAt w.heap.size w u xs) (hv : SetAt w.heap.size w v xs) :
    Calls Try.prog 13 #[u, v] w fun e w' => e = .returned (.bool true) ∧ Below w.heap.size w w' := by
  obtain ⟨A, c, rfl, hr⟩ := hu
  obtain ⟨A', c', rfl, hr'⟩ := hv
  obtain ⟨n, hn⟩ : ∃ n, xs.length = n := ⟨_, rfl⟩
  rw [hn] at hl hr hr' ⊢
  have Hn := Lib.hid hn
  have HR := Lib.hid hr
  have HR' := Lib.hid hr'
  clear hr hr' hn
  go_enter Try.func13, Try.ntmps13
  go_wp2_with fail
  go_loopw [5] (fun i wr => ∃ k : Nat, k ≤ n ∧ i = .int .i64 k ∧ Below w.heap.size w wr) (fun i _ => n - (RowKit.intOf i).toNat)
  case atStart => exact ⟨0, Nat.zero_le _, rfl, Below.refl _ _⟩
  case round =>
    obtain ⟨k, hk, rfl, hB⟩ := hrel
    by_cases hlt : (k : Int) < (n : Int)
    · obtain ⟨p, hp⟩ : ∃ p, xs[k]? = some p := ⟨_, List.getElem?_eq_getElem (by rw [Hn.out]; omega)⟩
      obtain ⟨g, off, rfl, hg, hc⟩ := HR.out (by omega)
      obtain ⟨g', off', rfl, hg', hc'⟩ := HR'.out (by omega)
      obtain ⟨q0, q1⟩ := (hc.below hB hg) k p hp
      obtain ⟨s0, s1⟩ := (hc'.below hB hg') k p hp
      clear hp hc hc'
      go_wp2_with fail
      go_quiet (fail)
      go_wp2_with fail
      go_roundw
      case rel => exact ⟨k + 1, by omega, by go_num, below_drewN hB _⟩
      case measure => simp [RowKit.intOf]; omega
    · obtain rfl : k = n := by omega
      go_wp2_with fail
      go_ret
      exact ⟨rfl, hB⟩

end Go.Proofs.Ytkhongbemoahpaa

