/- VatTruths: what is kept true from deed to deed; small contracts. -/
import Derived.Test.YtfdaiififoomoaaJB22
import Derived.Test.YtfdaiififoomoaaJB23
import Derived.Test.YtfdaiififoomoaaJB21
import Derived.Test.YtfdaiififoomoaaJB5
namespace Go.Proofs.Ytfdaiififoomoaa
open Go.RowKit Go.Lib Go.Shelf
set_option linter.unusedVariables false
set_option linter.unusedSimpArgs false
attribute [local go_sem ↓] Go.wp_at_zero Go.wp_at_succ

/-- a deed -/
structure De where
  what : Int
  tank : Int
  un : Int
  wa : Int
  su : Int
  l0 : Int
  l1 : Int
  t0 : Int
  t1 : Int
def cDe (d : De) : List Value := [.int .u8 d.what, .int .u8 d.tank, .int .u8 d.un, .int .u16 d.wa, .int .u16 d.su, .int .u8 d.l0, .int .u8 d.l1, .int .u8 d.t0, .int .u8 d.t1]
structure DeB (d : De) : Prop where
  what : 0 ≤ d.what ∧ d.what ≤ 255
  un : 0 ≤ d.un ∧ d.un ≤ 255
  wa : 0 ≤ d.wa ∧ d.wa ≤ 65535
  su : 0 ≤ d.su ∧ d.su ≤ 65535
  l0 : 0 ≤ d.l0 ∧ d.l0 ≤ 255
  l1 : 0 ≤ d.l1 ∧ d.l1 ≤ 255
  t0 : 0 ≤ d.t0 ∧ d.t0 ≤ 255
  t1 : 0 ≤ d.t1 ∧ d.t1 ≤ 255
/-- what is true -/
structure Tr where
  lo : Int
  te : Int
  gr : Int
  fi : Int
def cTr (d : Tr) : List Value := [.int .u8 d.lo, .int .u8 d.te, .int .u8 d.gr, .int .u8 d.fi]
structure TrB (d : Tr) : Prop where
  lo : 0 ≤ d.lo ∧ d.lo ≤ 255
  te : 0 ≤ d.te ∧ d.te ≤ 255
  gr : 0 ≤ d.gr ∧ d.gr ≤ 255
  fi : 0 ≤ d.fi ∧ d.fi ≤ 255

/-- a number of a range -/
def pk (lo hi b : Int) : Int := lo + (hi - lo) * b / 255
theorem pk_in {lo hi b : Int} (h : lo ≤ hi) (hb : 0 ≤ b ∧ b ≤ 255) : lo ≤ pk lo hi b ∧ pk lo hi b ≤ hi := by
  unfold pk
  have h1 : 0 ≤ (hi - lo) * b := Int.mul_nonneg (by omega) hb.1
  have h2 : (hi - lo) * b ≤ (hi - lo) * 255 := Int.mul_le_mul_of_nonneg_left hb.2 (by omega)
  generalize (hi - lo) * b = z at *
  omega
set_option maxHeartbeats 1000000 in
theorem pick_any (lo hi b : Int) (h : 0 ≤ lo ∧ lo ≤ hi ∧ hi ≤ 1000000) (hb : 0 ≤ b ∧ b ≤ 255) (w : World) :
    Calls Try.prog 9 #[.agg #[.int .i64 lo, .int .i64 hi], .int .u8 b] w fun e w' => e = .returned (.int .i64 (pk lo hi b)) ∧ Below w.heap.size w w' := by
  have h1 : 0 ≤ (hi - lo) * b := Int.mul_nonneg (by omega) hb.1
  have h2 : (hi - lo) * b ≤ 1000000 * 255 := Int.le_trans (Int.mul_le_mul_of_nonneg_left hb.2 (by omega)) (Int.mul_le_mul_of_nonneg_right (by omega) (by omega))
  have hp := pk_in h.2.1 hb
  have v1 : IntKind.i64.wrap (hi - lo) = hi - lo := IntWalk.i64_in _ (by omega)
  have v2 : IntKind.i64.wrap b = b := IntWalk.i64_in _ (by omega)
  have v3 : IntKind.i64.wrap ((hi - lo) * b) = (hi - lo) * b := IntWalk.i64_in _ (by omega)
  have v4 : ((hi - lo) * b).tdiv 255 = (hi - lo) * b / 255 := Int.tdiv_eq_ediv_of_nonneg h1
  have v5 : IntKind.i64.wrap ((hi - lo) * b / 255) = (hi - lo) * b / 255 := IntWalk.i64_in _ (by omega)
  have v6 : IntKind.i64.wrap (lo + (hi - lo) * b / 255) = pk lo hi b := by
    show IntKind.i64.wrap (pk lo hi b) = _
    exact IntWalk.i64_in _ (by omega)
  clear h1 h2 hp h hb
  generalize pk lo hi b = r at *
  go_enter Try.func9, Try.ntmps9
  go_wp2_with fail
  go_ret
  exact ⟨rfl, (Below.refl _ _).alloc (Nat.le_refl _) _⟩

def teL (d : De) : Int := d.t0 % 200
def teH (d : De) : Int := teL d + d.t1 % (201 - teL d)
theorem te_in {d : De} (h : DeB d) : 0 ≤ teL d ∧ teL d ≤ teH d ∧ teH d ≤ 200 := by
  have m1 := Int.emod_nonneg d.t0 (show (200 : Int) ≠ 0 by omega)
  have m2 := Int.emod_lt_of_pos d.t0 (show (0 : Int) < 200 by omega)
  unfold teH
  have e : teL d = d.t0 % 200 := rfl
  rw [← e] at m1 m2
  generalize teL d = q at *
  have m3 := Int.emod_nonneg d.t1 (show (201 - q : Int) ≠ 0 by omega)
  have m4 := Int.emod_lt_of_pos d.t1 (show (0 : Int) < 201 - q by omega)
  omega
set_option maxHeartbeats 2000000 in
theorem temps_any (d : De) (h : DeB d) (w : World) :
    Calls Try.prog 10 #[.agg (cDe d).toArray] w fun e w' => e = .returned (.agg #[.int .i64 (teL d), .int .i64 (teH d)]) ∧ Below w.heap.size w w' := by
  have ht := te_in h
  obtain ⟨_, _, _, _, _, _, ⟨h0, h1⟩, h2, h3⟩ := h
  obtain ⟨what, tank, un, wa, su, l0, l1, t0, t1⟩ := d
  simp only [cDe, teL, teH] at *
  have v1 : IntKind.i64.wrap t0 = t0 := IntWalk.i64_in _ (by omega)
  have v2 : IntKind.i64.wrap t1 = t1 := IntWalk.i64_in _ (by omega)
  have m1 := Int.emod_nonneg t0 (show (200 : Int) ≠ 0 by omega)
  have m2 := Int.emod_lt_of_pos t0 (show (0 : Int) < 200 by omega)
  have v3 : t0.tmod 200 = t0 % 200 := Int.tmod_eq_emod_of_nonneg h0
  have v4 : IntKind.i64.wrap (t0 % 200) = t0 % 200 := IntWalk.i64_in _ (by omega)
  have v5 : IntKind.i64.wrap (201 - t0 % 200) = 201 - t0 % 200 := IntWalk.i64_in _ (by omega)
  have v6 : t1.tmod (201 - t0 % 200) = t1 % (201 - t0 % 200) := Int.tmod_eq_emod_of_nonneg h2
  have m3 := Int.emod_nonneg t1 (show (201 - t0 % 200 : Int) ≠ 0 by omega)
  have m4 := Int.emod_lt_of_pos t1 (show (0 : Int) < 201 - t0 % 200 by omega)
  have v7 : IntKind.i64.wrap (t1 % (201 - t0 % 200)) = t1 % (201 - t0 % 200) := IntWalk.i64_in _ (by omega)
  have v8 : IntKind.i64.wrap (t0 % 200 + t1 % (201 - t0 % 200)) = t0 % 200 + t1 % (201 - t0 % 200) := IntWalk.i64_in _ (by omega)
  have hz : ((201 : Int) - t0 % 200 = 0) = False := by simp; omega
  clear ht m1 m2 m3 m4
  go_enter Try.func10, Try.ntmps10
  go_wp2_with fail
  exact bodyPost_ret (v := .agg #[.int .i64 (t0 % 200), .int .i64 (t0 % 200 + t1 % (201 - t0 % 200))]) (by simp [results, Try.results10, go_sem]) rfl ⟨rfl, by first | exact below_al2 w _ _ | exact ((below_al2 w _ _).setCell (by simp <;> omega) _).setCell (by simp <;> omega) _⟩
theorem value_k (v : Value) (x : Int) (h0 : 0 ≤ x) (h1 : x ≤ 200) (w : World) (hv : SetAt w.heap.size w v kRows) :
    Calls Try.prog 11 #[v, .int .i64 x] w fun e w' => e = .returned (.tuple #[.agg #[.int .i64 (valV kRows x).1, .int .i64 (valV kRows x).2], .int .i64 0]) ∧ Below w.heap.size w w' := by
  have key := value_any v kRows x w hv
  have e1 : vaE kRows x = 0 := by
    unfold vaE
    have h : tabE kRows = 0 := by kernel_rfl
    rw [if_pos h, if_pos (k_cov h0 h1)]
  have e2 : vaR kRows x = valV kRows x := by unfold vaR; rw [if_pos e1]
  rw [e1, e2] at key
  exact key

/-- what is kept true from deed to deed -/
structure VtOk (i : Nat) (ls : List Int) (hs : List (Int × Int)) (xs : List Lo) (film alone spoils T p1 p2 fl fh : Int) : Prop where
  lots : LotsOk ls xs (1000 + 3000 * i)
  hours : HoursOk hs alone spoils
  hl : hs.length ≤ 10 * i
  ll : ls.length ≤ i
  film : 0 ≤ fl ∧ fl ≤ film ∧ film ≤ fh ∧ fh ≤ 20 * i
  time : 0 ≤ T ∧ T ≤ 10 * i
  ms : ∀ x ∈ xs, loB x ∧ 0 ≤ x.t ∧ x.t ≤ T
  sm : (lotSum xs).1 ≤ 65536 * i ∧ (lotSum xs).2 ≤ 65536 * i
  po : 0 ≤ p1 ∧ p1 ≤ 65536 * i ∧ 0 ≤ p2 ∧ p2 ≤ 65536 * i
theorem vt_start : VtOk 0 [] [] [] 0 0 (-1) 0 0 0 0 0 :=
  ⟨⟨rfl, fun j x l h => by simp at h⟩, hours_start, by simp, by simp, by omega, by omega, (fun x h => nomatch h), by simp [lotSum, saps, suU], by omega⟩
theorem vt_pour {i : Nat} {ls : List Int} {hs : List (Int × Int)} {xs : List Lo} {film alone spoils T p1 p2 fl fh : Int} (h : VtOk i ls hs xs film alone spoils T p1 p2 fl fh) (hi : i ≤ 20) {wa su l0 l1 v : Int} (hw : 0 ≤ wa ∧ wa ≤ 65535) (hs' : 0 ≤ su ∧ su ≤ 65535) (hl : 0 ≤ l0 ∧ 0 ≤ l1 ∧ l0 ≤ 255 ∧ l1 ≤ 255) (hv : l0 ≤ v ∧ v ≤ l0 + l1) :
    VtOk (i + 1) (ls ++ [max film v]) hs (xs ++ [raise fl fh ⟨1 + wa, su, l0, l0 + l1, T⟩]) film alone spoils T (p1 + (1 + wa)) (p2 + su) fl fh := by
  obtain ⟨a1, a2, a3, a4, a5, a6, a7, a8, a9⟩ := h
  refine ⟨?_, a2, by omega, by simp; omega, by omega, by omega, ?_, ?_, by omega⟩
  · refine lots_pour (lots_more a1 (by omega)) (by dsimp only; omega) (by omega)
  · intro x hx
    rcases List.mem_append.1 hx with hx | hx
    · exact a7 x hx
    · simp at hx
      subst hx
      exact ⟨⟨by show 0 ≤ 1 + wa; omega, by show 1 + wa ≤ _; omega, by show 0 ≤ su; omega, by show su ≤ _; omega⟩, by show 0 ≤ T; omega, by show T ≤ T; omega⟩
  · rw [lotSum_snoc]
    simp only [addP, raise]
    omega
theorem map_loB {n gl gh : Int} {xs : List Lo} {T : Int} (hn : 0 ≤ n) (h : ∀ x ∈ xs, loB x ∧ 0 ≤ x.t ∧ x.t ≤ T) : ∀ x ∈ xs.map (growL n gl gh), loB x ∧ 0 ≤ x.t ∧ x.t ≤ T + n := by
  intro x hx
  obtain ⟨y, hy, rfl⟩ := List.mem_map.1 hx
  have := h y hy
  exact ⟨this.1, this.2.1, by show y.t ≤ _; omega⟩
theorem sum_grow (n gl gh : Int) : ∀ xs : List Lo, lotSum (xs.map (growL n gl gh)) = lotSum xs := by
  intro xs
  have : saps (xs.map (growL n gl gh)) = saps xs := by simp [saps, growL]
  simp [lotSum, this]
theorem vt_stay {i : Nat} {ls : List Int} {hs hs2 : List (Int × Int)} {xs : List Lo} {film alone spoils T p1 p2 fl fh al sp : Int} (h : VtOk i ls hs xs film alone spoils T p1 p2 fl fh) (hi : i ≤ 20) {n : Nat} {g gl gh fi : Int} (hn : n ≤ 9) (hg : 0 ≤ gl ∧ gl ≤ g ∧ g ≤ gh ∧ gh ≤ 300) (hh : HoursOk hs2 al sp) (hlen : hs2.length = hs.length + n) (hf : 1 ≤ fi ∧ fi ≤ 2) :
    VtOk (i + 1) (ls.map fun l => l + (n : Int) * g) hs2 (xs.map (growL n gl gh)) (film + n * fi) al sp (T + n) p1 p2 (min 1000000 (fl + n * 1)) (min 1000000 (fh + n * 2)) := by
  obtain ⟨a1, a2, a3, a4, a5, a6, a7, a8, a9⟩ := h
  have m1 : (n : Int) * 1 ≤ n * fi := Int.mul_le_mul_of_nonneg_left hf.1 (by omega)
  have m2 : (n : Int) * fi ≤ n * 2 := Int.mul_le_mul_of_nonneg_left hf.2 (by omega)
  refine ⟨lots_more (lots_stay (n := n) a1 (by omega) (by omega)) (by omega), hh, by omega, by simp; omega, ?_, by omega, map_loB (by omega) a7, ?_, by omega⟩
  · generalize (n : Int) * fi = z at *
    omega
  · rw [sum_grow]
    omega
end Go.Proofs.Ytfdaiififoomoaa
