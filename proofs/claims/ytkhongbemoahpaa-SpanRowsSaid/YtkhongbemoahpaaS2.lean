/- Contracts: the numbers of values that never rise, sorted from the greatest value to the least one: greatestFirst (at most 19 values). -/
import Derived.Test.YtkhongbemoahpaaS1
import Derived.Test.YtkhongbemoahpaaT9
namespace Go.Proofs.Ytkhongbemoahpaa
open Go.RowKit Go.Lib Go.Shelf
set_option linter.unusedVariables false
set_option linter.unusedSimpArgs false
attribute [local go_sem ↓] Go.wp_at_zero Go.wp_at_succ

set_option maxRecDepth 20000 in
set_option maxHeartbeats 600000 in
theorem stable_noop (F : Nat) (c : Value) (hE : ∀ args w, (callFunc F args).run Try.prog w = .ok (.enter F args) w) (g off n cap : Nat) (hn : n ≤ 19) (w : World) (hg : g < w.heap.size) (hu : UpRow w g off n) (hc : NoSwap F #[c] n w) :
    Calls Try.prog 60 #[.slice (some ⟨g, off, none⟩) n cap, .int .i64 n, .func (Fn.func F) #[] #[c]] w fun e w' => e = .returned (.tuple #[]) ∧ Below w.heap.size w w' := by
  have HU := Lib.hid hu
  have HC := Lib.hid hc
  clear hu hc
  go_enter Try.func60, Try.ntmps60
  go_wp2_with fail
  go_loopw [7, 8] (fun a b wr => a = .int .i64 0 ∧ b = .int .i64 20 ∧ wr = w) (fun _ _ _ => 0)
  case atStart => exact ⟨rfl, rfl, rfl⟩
  case round =>
    obtain ⟨rfl, rfl, rfl⟩ := hrel
    go_wp2_with fail
    refine (isort_noop F c hE g off n cap (by omega) _ hg HU.out HC.out).mono ?_
    rintro e w1 ⟨rfl, hb⟩
    go_wp2_with fail
    go_loopw [6] (fun a w2 => a = .int .i64 20 ∧ w2 = w1) (fun _ _ => 0)
    case atStart => exact ⟨rfl, rfl⟩
    case round =>
      obtain ⟨rfl, rfl⟩ := hrel
      go_wp2_with fail
      go_end0
      exact ⟨rfl, hb⟩

set_option maxHeartbeats 400000 in
theorem sortStable_noop (F : Nat) (c : Value) (hE : ∀ args w, (callFunc F args).run Try.prog w = .ok (.enter F args) w) (g off n cap : Nat) (hn : n ≤ 19) (w : World) (hg : g < w.heap.size) (hu : UpRow w g off n) (hc : NoSwap F #[c] n w) :
    Calls Try.prog 49 #[.slice (some ⟨g, off, none⟩) n cap, .func (Fn.func F) #[] #[c]] w fun e w' => e = .returned (.tuple #[]) ∧ Below w.heap.size w w' := by
  have h := Lib.hid (stable_noop F c hE g off n cap hn w hg hu hc)
  clear hu hc
  go_enter Try.func49, Try.ntmps49
  go_wp2_with fail
  refine h.out.mono ?_
  rintro e w1 ⟨rfl, hb⟩
  go_wp2_with fail
  go_end0
  exact ⟨rfl, hb⟩

set_option maxHeartbeats 400000 in
theorem gf1_any (b gv offv n c : Nat) (i j : Nat) (vi vj : Int) (hi : i < n) (hj : j < n) (hn : n ≤ 1000) (h1 : -1000000000000000000 ≤ vi ∧ vi ≤ 1000000000000000000) (h2 : -1000000000000000000 ≤ vj ∧ vj ≤ 1000000000000000000) (w : World)
    (hb : w.cell? ⟨b, 0, none⟩ = some (.slice (some ⟨gv, offv, none⟩) n c)) (ci : w.cell? ⟨gv, offv + i, none⟩ = some (.int .i64 vi)) (cj : w.cell? ⟨gv, offv + j, none⟩ = some (.int .i64 vj)) :
    Calls Try.prog 50 #[.int .i64 i, .int .i64 j, .pointer (some ⟨b, 0, none⟩)] w fun e w' => e = .returned (.int .i64 (vj - vi)) ∧ Below w.heap.size w w' := by
  obtain ⟨h1, h1'⟩ := h1
  obtain ⟨h2, h2'⟩ := h2
  have hi0 : (0 : Int) ≤ (i : Int) := by omega
  have hi1 : (i : Int) < (n : Int) := by omega
  have hj0 : (0 : Int) ≤ (j : Int) := by omega
  have hj1 : (j : Int) < (n : Int) := by omega
  have hwx : IntKind.i64.wrap (vj - vi) = vj - vi := IntWalk.i64_in _ (by omega)
  go_enter Try.func50, Try.ntmps50
  go_wp2_with fail
  go_quiet (fail)
  go_wp2_with fail
  go_ret
  exact ⟨rfl, below_drewN (Below.refl _ _) _⟩

theorem enters_gf1 : ∀ args w, (callFunc 50 args).run Try.prog w = .ok (.enter 50 args) w := enters_of Try.func50 (by kernel_rfl) rfl

theorem own_base {w : World} {base base' : Nat} {e : TypeId} {size : Nat} {v : Value} {n : Nat} {xs : List Value} (h : w.ownsRow base e size v n xs) (hb : base' ≤ base) : w.ownsRow base' e size v n xs := by
  refine ⟨h.1, ?_⟩
  rcases h.2 with h1 | ⟨g, cap, cur, h2, h3, h4⟩
  · exact .inl h1
  · exact .inr ⟨g, cap, cur, h2, Nat.le_trans hb h3, h4⟩

/-- 0, 1, 2 .. -/
def upL (n : Nat) : List Int := (List.range n).map fun j : Nat => (j : Int)
theorem upL_succ (n : Nat) : upL (n + 1) = upL n ++ [(n : Int)] := by simp [upL, List.range_succ]
theorem upL_length (n : Nat) : (upL n).length = n := by simp [upL]
theorem upL_getD (n j : Nat) (h : j < n) : (upL n).getD j 0 = (j : Int) := by simp [upL, h]

/-- a row of numbers is read: values at g from off on -/
def IntsAt (w : World) (g off : Nat) (zs : List Int) : Prop := ∀ j z, zs[j]? = some z → w.cell? ⟨g, off + j, none⟩ = some (.int .i64 z)

def GfPost (w : World) (n : Nat) (os : List Int) (e : Ending) (w' : World) : Prop :=
  ∃ v, e = .returned v ∧ w'.ownsRow w.heap.size 3 1 v n (ints os) ∧ Below w.heap.size w w'

set_option maxRecDepth 20000 in
set_option maxHeartbeats 1000000 in
theorem greatestFirst_down (g off c : Nat) (zs : List Int) (hl : 0 < zs.length) (hl2 : zs.length ≤ 19) (hz : ∀ z ∈ zs, -1000000000000000000 ≤ z ∧ z ≤ 1000000000000000000) (hd : ∀ k, k + 1 < zs.length → zs.getD (k + 1) 0 ≤ zs.getD k 0) (w : World) (hg : g < w.heap.size) (hr : IntsAt w g off zs) :
    Calls Try.prog 39 #[.slice (some ⟨g, off, none⟩) zs.length c] w (GfPost w zs.length (upL zs.length)) := by
  obtain ⟨i0, hi0, hz0, hz1, hz2⟩ := info_parts infoInt
  have HE := enters_gf1
  have HR := Lib.hid hr
  have HZ : Hid (∀ j, j < zs.length → -1000000000000000000 ≤ zs.getD j 0 ∧ zs.getD j 0 ≤ 1000000000000000000 ∧ zs[j]? = some (zs.getD j 0)) := Lib.hid fun j hj => by
    have e : zs[j]? = some (zs.getD j 0) := by rw [List.getD_eq_getElem?_getD, List.getElem?_eq_getElem hj]; rfl
    have := hz _ (List.mem_of_getElem? e)
    exact ⟨this.1, this.2, e⟩
  have HD := Lib.hid hd
  clear hr hz hd
  obtain ⟨n, hn⟩ : ∃ n, zs.length = n := ⟨_, rfl⟩
  rw [hn] at HZ HD hl hl2 ⊢
  clear hn
  go_enter Try.func39, Try.ntmps39
  go_wp2_with fail
  go_loopw [3, 7] (fun s i wr => ∃ k : Nat, k ≤ n ∧ i = .int .i64 k ∧ wr.ownsRow (w.heap.size + 1) 3 1 s k (ints (upL k)) ∧ wr.cell? ⟨w.heap.size, 0, none⟩ = some (.slice (some ⟨g, off, none⟩) n c) ∧ w.heap.size < wr.heap.size ∧ Below w.heap.size w wr) (fun _ i _ => n - (RowKit.intOf i).toNat)
  case atStart => exact ⟨0, Nat.zero_le _, rfl, World.ownsRow_nil _ _ _ _, by simp [go_sem], by simp, (Below.refl _ _).alloc (Nat.le_refl _) _⟩
  case round =>
    obtain ⟨k, hk, rfl, hown, hc, hs, hbr⟩ := hrel
    by_cases hlt : (k : Int) < (n : Int)
    · obtain ⟨m, B, cc, rfl⟩ : ∃ (m : Nat) (B : Option Addr) (cc : Nat), u3 = Value.slice B m cc := by
        rcases hown.2 with ⟨rfl, _⟩ | ⟨g, cap, cur, rfl, _⟩
        · exact ⟨_, _, _, rfl⟩
        · exact ⟨_, _, _, rfl⟩
      have HOWN := Lib.hid hown
      have HNX := Lib.hid (upL_succ k)
      clear hown
      generalize upL k = L at *
      go_wp2_with (at_builtin; refine wpList_append_own_at _ rfl (.tmp 10) (.tmp 12) 57 rfl (w.heap.size + 1) 3 i0 (.int .i64 0) 1 8 Try.underlying57 hi0 hz0 hz1 hz2 rfl (by decide) (.slice B m cc) k (ints L) rfl (HOWN.out.alloc _) ⟨wr.heap.size, 0, none⟩ 1 1 (ints [(k : Int)]) rfl rfl ?_ ?_ ?_ ?_ ?_ ?_)
      case refine_1 =>
        intro i u hi
        rcases i with _ | i
        · simp [ints] at hi; subst hi; exact (cell_at _ _ _ _ _ (by simp))
        · simp [ints] at hi
      case refine_2 => simp [Value.oneCell', ints]
      case refine_3 => unfold maxLen; omega
      case refine_4 => omega
      case refine_5 => simp; omega
      case refine_6 =>
        intro v' w1 hown' hgrow _ hat
        have hrow : ∀ r, (Value.slice B m cc).ownBlock = some r → w.heap.size + 1 ≤ r := fun r hr => (HOWN.out.lt r hr).1
        have hb1 := (hbr.alloc hbr.size (Obj.cells #[Value.int IntKind.i64 (k : Int)] 3)).grown hgrow (by simp; omega) (fun r hr => by have := hrow r hr; omega)
        have hc1 := grown_cell' (v := some (Value.slice (some ⟨g, off, none⟩) n c)) hgrow (b := w.heap.size) (o := 0) (by simp; omega) (fun r hr => by have := hrow r hr; omega) (by rw [cell_old _ _ _ _ hs]; exact hc)
        have hs1 : w.heap.size < w1.heap.size := Nat.lt_of_lt_of_le (by simp; omega) hgrow.size
        rw [← ints_append] at hown'
        have HOWN1 := Lib.hid hown'
        clear hown' hgrow hrow hat hc
        go_wp2_with fail
        go_roundw
        case rel =>
          refine ⟨k + 1, by omega, by go_num, ?_, hc1, hs1, hb1⟩
          rw [HNX.out]
          exact HOWN1.out
        case measure => simp [RowKit.intOf]; omega
    · obtain rfl : k = n := by omega
      obtain ⟨go, cap, hv, hgo1, hgo2⟩ : ∃ go cap, u3 = Value.slice (some ⟨go, 0, none⟩) k cap ∧ w.heap.size + 1 ≤ go ∧ go < wr.heap.size := by
        rcases hown.2 with ⟨_, h⟩ | ⟨go, cap, cur, rfl, hb, hgg, _⟩
        · omega
        · exact ⟨go, cap, rfl, hb, (Array.getElem?_eq_some_iff.1 hgg).1⟩
      subst hv
      have hup : UpRow wr go 0 k := fun j hj => by
        have h := hown.cellAt j (by omega)
        rw [Nat.zero_add, h]
        simp [ints, upL, hj]
      have HUP := Lib.hid hup
      have HOWN := Lib.hid hown
      have hns : NoSwap 50 #[.pointer (some ⟨w.heap.size, 0, none⟩)] k wr := fun j hj => by
        obtain ⟨a1, a2, a3⟩ := HZ.out j (by omega)
        obtain ⟨b1, b2, b3⟩ := HZ.out (j + 1) (by omega)
        have hdd := HD.out j hj
        refine ⟨zs.getD j 0 - zs.getD (j + 1) 0, by omega, by omega, fun W hW => ?_⟩
        have h := gf1_any w.heap.size g off k c (j + 1) j _ _ hj (by omega) (by omega) ⟨b1, b2⟩ ⟨a1, a2⟩ W (cell_next hW hs hc) (cell_next hW (by omega) (cell_next hbr hg (HR.out _ _ b3))) (cell_next hW (by omega) (cell_next hbr hg (HR.out _ _ a3)))
        exact h
      have HNS := Lib.hid hns
      clear hup hown hns
      go_wp2_with fail
      refine (sortStable_noop 50 (.pointer (some ⟨w.heap.size, 0, none⟩)) HE go 0 k cap hl2 _ hgo2 HUP.out HNS.out).mono ?_
      rintro e w2 ⟨rfl, hb2⟩
      have hfin := own_below HOWN.out hb2
      have hbf := hbr.trans (hb2.mono hbr.size)
      have HF := Lib.hid hfin
      clear hfin hb2 hc
      go_wp2_with fail
      go_ret
      exact ⟨_, rfl, own_base HF.out (Nat.le_succ _), hbf⟩
end Go.Proofs.Ytkhongbemoahpaa

