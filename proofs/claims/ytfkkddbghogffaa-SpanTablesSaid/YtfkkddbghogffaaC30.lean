/- Contracts: the reference's search by halving. -/
import Derived.Test.YtfkkddbghogffaaC29
import Derived.Test.YtfkkddbghogffaaP11
namespace Go.Proofs.Ytfkkddbghogffaa
open Go.RowKit Go.Lib Go.Shelf
set_option linter.unusedVariables false
set_option linter.unusedSimpArgs false
attribute [local go_sem ↓] Go.wp_at_zero Go.wp_at_succ

/-- what is looked for -/
def srP (yl yh : Int) (rises behind : Bool) (v : Int × Int) : Bool :=
  match rises, behind with
  | true, false => decide (yl ≤ v.1)
  | true, true => decide (yh < v.2)
  | false, false => decide (v.2 ≤ yh)
  | false, true => decide (v.1 < yl)
def SearchPost (P : Int → Bool) (a b : Int) (w : World) (e : Ending) (w' : World) : Prop := ∃ f, e = .returned (.int .i64 f) ∧ firstIs P a b f ∧ Below w.heap.size w w'
set_option maxRecDepth 20000 in
set_option maxHeartbeats 4000000 in
theorem search_ref (xs : List (Int × Int)) (a b yl yh : Int) (rises behind : Bool) (g off c : Nat) (ht : TabOk xs) (ha : -1000000000 ≤ a) (hb : b ≤ 1000000000) (hab : a ≤ b + 1)
    (hcv : ∀ x, a ≤ x → x ≤ b → covB xs x = true) (hmono : ∀ x y, a ≤ x → x ≤ y → y ≤ b → srP yl yh rises behind (valV xs x) = true → srP yl yh rises behind (valV xs y) = true)
    (w : World) (hg : g < w.heap.size) (hr : RRd w g off xs) :
    Calls Try.prog 128 #[.slice (some ⟨g, off, none⟩) xs.length c, .int .i64 a, .int .i64 b, .agg #[.int .i64 yl, .int .i64 yh], .bool rises, .bool behind] w (SearchPost (fun x => srP yl yh rises behind (valV xs x)) a b w) := by
  have c1 := Lib.hid (fun (x : Int) (W : World) (h1 : a ≤ x) (h2 : x ≤ b) (h : Below w.heap.size w W) => rValue_any xs x g off c ht (hcv x h1 h2) W (Nat.lt_of_lt_of_le hg h.size) (hr.below h hg))
  obtain ⟨n, hn⟩ : ∃ n, xs.length = n := ⟨_, rfl⟩
  have hM := Lib.hid hmono
  have hQ : Hid (∀ f W, firstIs (fun x => srP yl yh rises behind (valV xs x)) a b f → Below w.heap.size w W → SearchPost (fun x => srP yl yh rises behind (valV xs x)) a b w (.returned (.int .i64 f)) W) := Lib.hid (fun f W h1 h2 => ⟨f, rfl, h1, h2⟩)
  generalize SearchPost (fun x => srP yl yh rises behind (valV xs x)) a b w = Q at *
  rw [hn] at c1 ⊢
  have wb : IntKind.i64.wrap (b + 1) = b + 1 := IntWalk.i64_in _ (by omega)
  clear hn hr hcv hmono ht
  rcases rises with _ | _ <;> rcases behind with _ | _
  · simp only [srP] at hM hQ
    go_enter Try.func128, Try.ntmps128
    go_wp2_with fail
    go_loopw [13, 14] (fun s t wr => ∃ l h : Int, s = .int .i64 l ∧ t = .int .i64 h ∧ a ≤ l ∧ l ≤ h ∧ h ≤ b + 1 ∧ Hid (∀ x, a ≤ x → x < l → decide ((valV xs x).2 ≤ yh) = false) ∧ Hid (h ≤ b → decide ((valV xs h).2 ≤ yh) = true) ∧ Below w.heap.size w wr ∧ w.heap.size < wr.heap.size ∧ wr.cell? ⟨w.heap.size, 0, none⟩ = some (.int .i64 yl) ∧ wr.cell? ⟨w.heap.size, 1, none⟩ = some (.int .i64 yh)) (fun s t _ => (intOf t - intOf s).toNat)
    case atStart => exact ⟨a, b + 1, rfl, rfl, Int.le_refl _, hab, Int.le_refl _, Lib.hid (fun x h1 h2 => by omega), Lib.hid (fun h => by omega), (Below.refl _ _).alloc (Nat.le_refl _) _, by simp, by simp [go_sem], by simp [go_sem]⟩
    case round =>
      obtain ⟨l, h, rfl, rfl, l1, l2, l3, hlo, hhi, hB, hz, e0, e1⟩ := hrel
      by_cases hlt : l < h
      · have cF := Lib.hid (rFloor_any (h - l) 2 ⟨by omega, by omega⟩ (by omega) (by omega))
        have m0 : l ≤ l + (h - l) / 2 ∧ l + (h - l) / 2 < h := by omega
        have wd : IntKind.i64.wrap (h - l) = h - l := IntWalk.i64_in _ (by omega)
        have wm : IntKind.i64.wrap (l + (h - l) / 2) = l + (h - l) / 2 := IntWalk.i64_in _ (by omega)
        generalize (h - l) / 2 = hf at *
        obtain ⟨mid, hmid⟩ : ∃ m, l + hf = m := ⟨_, rfl⟩
        rw [hmid] at m0 wm
        have wm' : IntKind.i64.wrap (l + hf) = mid := by rw [hmid]; exact wm
        have w1' : IntKind.i64.wrap (mid + 1) = mid + 1 := IntWalk.i64_in _ (by omega)
        have cV := Lib.hid (fun (W : World) (hh : Below w.heap.size w W) => c1.out mid W (by omega) (by omega) hh)
        have hUp := Lib.hid (fun x (h1 : a ≤ x) (h2 : x ≤ mid) => hM.out x mid h1 h2 (by omega))
        have hDn := Lib.hid (fun (ht : decide ((valV xs mid).2 ≤ yh) = true) (x : Int) (h1 : a ≤ x) => True.intro)
        clear hmid c1 wm
        have hV : valV xs mid = ((valV xs mid).1, (valV xs mid).2) := rfl
        obtain ⟨t, hT⟩ : ∃ t, decide ((valV xs mid).2 ≤ yh) = t := ⟨_, rfl⟩
        have hlo2 : Hid (t = false → ∀ x, a ≤ x → x < mid + 1 → decide ((valV xs x).2 ≤ yh) = false) := Lib.hid (fun e x h1 h2 => by
          rw [Bool.eq_false_iff]
          intro hx
          have := hUp.out x h1 (by omega) hx
          rw [hT, e] at this
          cases this)
        have hhi2 : Hid (t = true → mid ≤ b → decide ((valV xs mid).2 ≤ yh) = true) := Lib.hid (fun e _ => by rw [hT, e])
        clear hUp hDn hV
        generalize hvv : valV xs mid = v at cV hT
        clear hvv
        cases t
        · go_wp2_with fail
          refine (cF.out _).mono ?_
          rintro e w1 ⟨rfl, rfl⟩
          go_wp2_with fail
          refine (cV.out _ hB).mono ?_
          rintro e w2 ⟨rfl, hb'⟩
          replace e0 := cell_next hb' hz e0
          replace e1 := cell_next hb' hz e1
          replace hB := hB.trans (hb'.mono hB.size)
          replace hz := Nat.lt_of_lt_of_le hz hb'.size
          clear hb' cF cV
          have e0' : ∀ o, (w2.alloc o).cell? ⟨w.heap.size, 0, none⟩ = _ := fun o => (((Below.refl w2.heap.size w2).alloc (Nat.le_refl _) o).cell (p := ⟨w.heap.size, 0, none⟩) hz).trans e0
          have e1' : ∀ o, (w2.alloc o).cell? ⟨w.heap.size, 1, none⟩ = _ := fun o => (((Below.refl w2.heap.size w2).alloc (Nat.le_refl _) o).cell (p := ⟨w.heap.size, 1, none⟩) hz).trans e1
          have hB2 := fun o => hB.alloc hB.size o
          go_wp2_with fail
          go_roundw
          case rel => exact ⟨mid + 1, h, by go_num, rfl, by omega, by omega, l3, Lib.hid (hlo2.out (by simp)), hhi, hB2 _, by simp; omega, e0' _, e1' _⟩
          case measure => simp [intOf]; omega
        · go_wp2_with fail
          refine (cF.out _).mono ?_
          rintro e w1 ⟨rfl, rfl⟩
          go_wp2_with fail
          refine (cV.out _ hB).mono ?_
          rintro e w2 ⟨rfl, hb'⟩
          replace e0 := cell_next hb' hz e0
          replace e1 := cell_next hb' hz e1
          replace hB := hB.trans (hb'.mono hB.size)
          replace hz := Nat.lt_of_lt_of_le hz hb'.size
          clear hb' cF cV
          have e0' : ∀ o, (w2.alloc o).cell? ⟨w.heap.size, 0, none⟩ = _ := fun o => (((Below.refl w2.heap.size w2).alloc (Nat.le_refl _) o).cell (p := ⟨w.heap.size, 0, none⟩) hz).trans e0
          have e1' : ∀ o, (w2.alloc o).cell? ⟨w.heap.size, 1, none⟩ = _ := fun o => (((Below.refl w2.heap.size w2).alloc (Nat.le_refl _) o).cell (p := ⟨w.heap.size, 1, none⟩) hz).trans e1
          have hB2 := fun o => hB.alloc hB.size o
          go_wp2_with fail
          go_roundw
          case rel => exact ⟨l, mid, rfl, rfl, l1, by omega, by omega, hlo, Lib.hid (hhi2.out (by simp)), hB2 _, by simp; omega, e0' _, e1' _⟩
          case measure => simp [intOf]; omega
      · obtain rfl : l = h := by omega
        have hq := Lib.hid (hQ.out l wr ⟨l1, l3, fun x h1 h2 => hlo.out x h1 h2, fun hh => hhi.out hh⟩ hB)
        go_wp2_with fail
        exact hq.out
  · simp only [srP] at hM hQ
    go_enter Try.func128, Try.ntmps128
    go_wp2_with fail
    go_loopw [13, 14] (fun s t wr => ∃ l h : Int, s = .int .i64 l ∧ t = .int .i64 h ∧ a ≤ l ∧ l ≤ h ∧ h ≤ b + 1 ∧ Hid (∀ x, a ≤ x → x < l → decide ((valV xs x).1 < yl) = false) ∧ Hid (h ≤ b → decide ((valV xs h).1 < yl) = true) ∧ Below w.heap.size w wr ∧ w.heap.size < wr.heap.size ∧ wr.cell? ⟨w.heap.size, 0, none⟩ = some (.int .i64 yl) ∧ wr.cell? ⟨w.heap.size, 1, none⟩ = some (.int .i64 yh)) (fun s t _ => (intOf t - intOf s).toNat)
    case atStart => exact ⟨a, b + 1, rfl, rfl, Int.le_refl _, hab, Int.le_refl _, Lib.hid (fun x h1 h2 => by omega), Lib.hid (fun h => by omega), (Below.refl _ _).alloc (Nat.le_refl _) _, by simp, by simp [go_sem], by simp [go_sem]⟩
    case round =>
      obtain ⟨l, h, rfl, rfl, l1, l2, l3, hlo, hhi, hB, hz, e0, e1⟩ := hrel
      by_cases hlt : l < h
      · have cF := Lib.hid (rFloor_any (h - l) 2 ⟨by omega, by omega⟩ (by omega) (by omega))
        have m0 : l ≤ l + (h - l) / 2 ∧ l + (h - l) / 2 < h := by omega
        have wd : IntKind.i64.wrap (h - l) = h - l := IntWalk.i64_in _ (by omega)
        have wm : IntKind.i64.wrap (l + (h - l) / 2) = l + (h - l) / 2 := IntWalk.i64_in _ (by omega)
        generalize (h - l) / 2 = hf at *
        obtain ⟨mid, hmid⟩ : ∃ m, l + hf = m := ⟨_, rfl⟩
        rw [hmid] at m0 wm
        have wm' : IntKind.i64.wrap (l + hf) = mid := by rw [hmid]; exact wm
        have w1' : IntKind.i64.wrap (mid + 1) = mid + 1 := IntWalk.i64_in _ (by omega)
        have cV := Lib.hid (fun (W : World) (hh : Below w.heap.size w W) => c1.out mid W (by omega) (by omega) hh)
        have hUp := Lib.hid (fun x (h1 : a ≤ x) (h2 : x ≤ mid) => hM.out x mid h1 h2 (by omega))
        have hDn := Lib.hid (fun (ht : decide ((valV xs mid).1 < yl) = true) (x : Int) (h1 : a ≤ x) => True.intro)
        clear hmid c1 wm
        have hV : valV xs mid = ((valV xs mid).1, (valV xs mid).2) := rfl
        obtain ⟨t, hT⟩ : ∃ t, decide ((valV xs mid).1 < yl) = t := ⟨_, rfl⟩
        have hlo2 : Hid (t = false → ∀ x, a ≤ x → x < mid + 1 → decide ((valV xs x).1 < yl) = false) := Lib.hid (fun e x h1 h2 => by
          rw [Bool.eq_false_iff]
          intro hx
          have := hUp.out x h1 (by omega) hx
          rw [hT, e] at this
          cases this)
        have hhi2 : Hid (t = true → mid ≤ b → decide ((valV xs mid).1 < yl) = true) := Lib.hid (fun e _ => by rw [hT, e])
        clear hUp hDn hV
        generalize hvv : valV xs mid = v at cV hT
        clear hvv
        cases t
        · go_wp2_with fail
          refine (cF.out _).mono ?_
          rintro e w1 ⟨rfl, rfl⟩
          go_wp2_with fail
          refine (cV.out _ hB).mono ?_
          rintro e w2 ⟨rfl, hb'⟩
          replace e0 := cell_next hb' hz e0
          replace e1 := cell_next hb' hz e1
          replace hB := hB.trans (hb'.mono hB.size)
          replace hz := Nat.lt_of_lt_of_le hz hb'.size
          clear hb' cF cV
          have e0' : ∀ o, (w2.alloc o).cell? ⟨w.heap.size, 0, none⟩ = _ := fun o => (((Below.refl w2.heap.size w2).alloc (Nat.le_refl _) o).cell (p := ⟨w.heap.size, 0, none⟩) hz).trans e0
          have e1' : ∀ o, (w2.alloc o).cell? ⟨w.heap.size, 1, none⟩ = _ := fun o => (((Below.refl w2.heap.size w2).alloc (Nat.le_refl _) o).cell (p := ⟨w.heap.size, 1, none⟩) hz).trans e1
          have hB2 := fun o => hB.alloc hB.size o
          go_wp2_with fail
          go_roundw
          case rel => exact ⟨mid + 1, h, by go_num, rfl, by omega, by omega, l3, Lib.hid (hlo2.out (by simp)), hhi, hB2 _, by simp; omega, e0' _, e1' _⟩
          case measure => simp [intOf]; omega
        · go_wp2_with fail
          refine (cF.out _).mono ?_
          rintro e w1 ⟨rfl, rfl⟩
          go_wp2_with fail
          refine (cV.out _ hB).mono ?_
          rintro e w2 ⟨rfl, hb'⟩
          replace e0 := cell_next hb' hz e0
          replace e1 := cell_next hb' hz e1
          replace hB := hB.trans (hb'.mono hB.size)
          replace hz := Nat.lt_of_lt_of_le hz hb'.size
          clear hb' cF cV
          have e0' : ∀ o, (w2.alloc o).cell? ⟨w.heap.size, 0, none⟩ = _ := fun o => (((Below.refl w2.heap.size w2).alloc (Nat.le_refl _) o).cell (p := ⟨w.heap.size, 0, none⟩) hz).trans e0
          have e1' : ∀ o, (w2.alloc o).cell? ⟨w.heap.size, 1, none⟩ = _ := fun o => (((Below.refl w2.heap.size w2).alloc (Nat.le_refl _) o).cell (p := ⟨w.heap.size, 1, none⟩) hz).trans e1
          have hB2 := fun o => hB.alloc hB.size o
          go_wp2_with fail
          go_roundw
          case rel => exact ⟨l, mid, rfl, rfl, l1, by omega, by omega, hlo, Lib.hid (hhi2.out (by simp)), hB2 _, by simp; omega, e0' _, e1' _⟩
          case measure => simp [intOf]; omega
      · obtain rfl : l = h := by omega
        have hq := Lib.hid (hQ.out l wr ⟨l1, l3, fun x h1 h2 => hlo.out x h1 h2, fun hh => hhi.out hh⟩ hB)
        go_wp2_with fail
        exact hq.out
  · simp only [srP] at hM hQ
    go_enter Try.func128, Try.ntmps128
    go_wp2_with fail
    go_loopw [13, 14] (fun s t wr => ∃ l h : Int, s = .int .i64 l ∧ t = .int .i64 h ∧ a ≤ l ∧ l ≤ h ∧ h ≤ b + 1 ∧ Hid (∀ x, a ≤ x → x < l → decide (yl ≤ (valV xs x).1) = false) ∧ Hid (h ≤ b → decide (yl ≤ (valV xs h).1) = true) ∧ Below w.heap.size w wr ∧ w.heap.size < wr.heap.size ∧ wr.cell? ⟨w.heap.size, 0, none⟩ = some (.int .i64 yl) ∧ wr.cell? ⟨w.heap.size, 1, none⟩ = some (.int .i64 yh)) (fun s t _ => (intOf t - intOf s).toNat)
    case atStart => exact ⟨a, b + 1, rfl, rfl, Int.le_refl _, hab, Int.le_refl _, Lib.hid (fun x h1 h2 => by omega), Lib.hid (fun h => by omega), (Below.refl _ _).alloc (Nat.le_refl _) _, by simp, by simp [go_sem], by simp [go_sem]⟩
    case round =>
      obtain ⟨l, h, rfl, rfl, l1, l2, l3, hlo, hhi, hB, hz, e0, e1⟩ := hrel
      by_cases hlt : l < h
      · have cF := Lib.hid (rFloor_any (h - l) 2 ⟨by omega, by omega⟩ (by omega) (by omega))
        have m0 : l ≤ l + (h - l) / 2 ∧ l + (h - l) / 2 < h := by omega
        have wd : IntKind.i64.wrap (h - l) = h - l := IntWalk.i64_in _ (by omega)
        have wm : IntKind.i64.wrap (l + (h - l) / 2) = l + (h - l) / 2 := IntWalk.i64_in _ (by omega)
        generalize (h - l) / 2 = hf at *
        obtain ⟨mid, hmid⟩ : ∃ m, l + hf = m := ⟨_, rfl⟩
        rw [hmid] at m0 wm
        have wm' : IntKind.i64.wrap (l + hf) = mid := by rw [hmid]; exact wm
        have w1' : IntKind.i64.wrap (mid + 1) = mid + 1 := IntWalk.i64_in _ (by omega)
        have cV := Lib.hid (fun (W : World) (hh : Below w.heap.size w W) => c1.out mid W (by omega) (by omega) hh)
        have hUp := Lib.hid (fun x (h1 : a ≤ x) (h2 : x ≤ mid) => hM.out x mid h1 h2 (by omega))
        have hDn := Lib.hid (fun (ht : decide (yl ≤ (valV xs mid).1) = true) (x : Int) (h1 : a ≤ x) => True.intro)
        clear hmid c1 wm
        have hV : valV xs mid = ((valV xs mid).1, (valV xs mid).2) := rfl
        obtain ⟨t, hT⟩ : ∃ t, decide (yl ≤ (valV xs mid).1) = t := ⟨_, rfl⟩
        have hlo2 : Hid (t = false → ∀ x, a ≤ x → x < mid + 1 → decide (yl ≤ (valV xs x).1) = false) := Lib.hid (fun e x h1 h2 => by
          rw [Bool.eq_false_iff]
          intro hx
          have := hUp.out x h1 (by omega) hx
          rw [hT, e] at this
          cases this)
        have hhi2 : Hid (t = true → mid ≤ b → decide (yl ≤ (valV xs mid).1) = true) := Lib.hid (fun e _ => by rw [hT, e])
        clear hUp hDn hV
        generalize hvv : valV xs mid = v at cV hT
        clear hvv
        cases t
        · go_wp2_with fail
          refine (cF.out _).mono ?_
          rintro e w1 ⟨rfl, rfl⟩
          go_wp2_with fail
          refine (cV.out _ hB).mono ?_
          rintro e w2 ⟨rfl, hb'⟩
          replace e0 := cell_next hb' hz e0
          replace e1 := cell_next hb' hz e1
          replace hB := hB.trans (hb'.mono hB.size)
          replace hz := Nat.lt_of_lt_of_le hz hb'.size
          clear hb' cF cV
          have e0' : ∀ o, (w2.alloc o).cell? ⟨w.heap.size, 0, none⟩ = _ := fun o => (((Below.refl w2.heap.size w2).alloc (Nat.le_refl _) o).cell (p := ⟨w.heap.size, 0, none⟩) hz).trans e0
          have e1' : ∀ o, (w2.alloc o).cell? ⟨w.heap.size, 1, none⟩ = _ := fun o => (((Below.refl w2.heap.size w2).alloc (Nat.le_refl _) o).cell (p := ⟨w.heap.size, 1, none⟩) hz).trans e1
          have hB2 := fun o => hB.alloc hB.size o
          go_wp2_with fail
          go_roundw
          case rel => exact ⟨mid + 1, h, by go_num, rfl, by omega, by omega, l3, Lib.hid (hlo2.out (by simp)), hhi, hB2 _, by simp; omega, e0' _, e1' _⟩
          case measure => simp [intOf]; omega
        · go_wp2_with fail
          refine (cF.out _).mono ?_
          rintro e w1 ⟨rfl, rfl⟩
          go_wp2_with fail
          refine (cV.out _ hB).mono ?_
          rintro e w2 ⟨rfl, hb'⟩
          replace e0 := cell_next hb' hz e0
          replace e1 := cell_next hb' hz e1
          replace hB := hB.trans (hb'.mono hB.size)
          replace hz := Nat.lt_of_lt_of_le hz hb'.size
          clear hb' cF cV
          have e0' : ∀ o, (w2.alloc o).cell? ⟨w.heap.size, 0, none⟩ = _ := fun o => (((Below.refl w2.heap.size w2).alloc (Nat.le_refl _) o).cell (p := ⟨w.heap.size, 0, none⟩) hz).trans e0
          have e1' : ∀ o, (w2.alloc o).cell? ⟨w.heap.size, 1, none⟩ = _ := fun o => (((Below.refl w2.heap.size w2).alloc (Nat.le_refl _) o).cell (p := ⟨w.heap.size, 1, none⟩) hz).trans e1
          have hB2 := fun o => hB.alloc hB.size o
          go_wp2_with fail
          go_roundw
          case rel => exact ⟨l, mid, rfl, rfl, l1, by omega, by omega, hlo, Lib.hid (hhi2.out (by simp)), hB2 _, by simp; omega, e0' _, e1' _⟩
          case measure => simp [intOf]; omega
      · obtain rfl : l = h := by omega
        have hq := Lib.hid (hQ.out l wr ⟨l1, l3, fun x h1 h2 => hlo.out x h1 h2, fun hh => hhi.out hh⟩ hB)
        go_wp2_with fail
        exact hq.out
  · simp only [srP] at hM hQ
    go_enter Try.func128, Try.ntmps128
    go_wp2_with fail
    go_loopw [13, 14] (fun s t wr => ∃ l h : Int, s = .int .i64 l ∧ t = .int .i64 h ∧ a ≤ l ∧ l ≤ h ∧ h ≤ b + 1 ∧ Hid (∀ x, a ≤ x → x < l → decide (yh < (valV xs x).2) = false) ∧ Hid (h ≤ b → decide (yh < (valV xs h).2) = true) ∧ Below w.heap.size w wr ∧ w.heap.size < wr.heap.size ∧ wr.cell? ⟨w.heap.size, 0, none⟩ = some (.int .i64 yl) ∧ wr.cell? ⟨w.heap.size, 1, none⟩ = some (.int .i64 yh)) (fun s t _ => (intOf t - intOf s).toNat)
    case atStart => exact ⟨a, b + 1, rfl, rfl, Int.le_refl _, hab, Int.le_refl _, Lib.hid (fun x h1 h2 => by omega), Lib.hid (fun h => by omega), (Below.refl _ _).alloc (Nat.le_refl _) _, by simp, by simp [go_sem], by simp [go_sem]⟩
    case round =>
      obtain ⟨l, h, rfl, rfl, l1, l2, l3, hlo, hhi, hB, hz, e0, e1⟩ := hrel
      by_cases hlt : l < h
      · have cF := Lib.hid (rFloor_any (h - l) 2 ⟨by omega, by omega⟩ (by omega) (by omega))
        have m0 : l ≤ l + (h - l) / 2 ∧ l + (h - l) / 2 < h := by omega
        have wd : IntKind.i64.wrap (h - l) = h - l := IntWalk.i64_in _ (by omega)
        have wm : IntKind.i64.wrap (l + (h - l) / 2) = l + (h - l) / 2 := IntWalk.i64_in _ (by omega)
        generalize (h - l) / 2 = hf at *
        obtain ⟨mid, hmid⟩ : ∃ m, l + hf = m := ⟨_, rfl⟩
        rw [hmid] at m0 wm
        have wm' : IntKind.i64.wrap (l + hf) = mid := by rw [hmid]; exact wm
        have w1' : IntKind.i64.wrap (mid + 1) = mid + 1 := IntWalk.i64_in _ (by omega)
        have cV := Lib.hid (fun (W : World) (hh : Below w.heap.size w W) => c1.out mid W (by omega) (by omega) hh)
        have hUp := Lib.hid (fun x (h1 : a ≤ x) (h2 : x ≤ mid) => hM.out x mid h1 h2 (by omega))
        have hDn := Lib.hid (fun (ht : decide (yh < (valV xs mid).2) = true) (x : Int) (h1 : a ≤ x) => True.intro)
        clear hmid c1 wm
        have hV : valV xs mid = ((valV xs mid).1, (valV xs mid).2) := rfl
        obtain ⟨t, hT⟩ : ∃ t, decide (yh < (valV xs mid).2) = t := ⟨_, rfl⟩
        have hlo2 : Hid (t = false → ∀ x, a ≤ x → x < mid + 1 → decide (yh < (valV xs x).2) = false) := Lib.hid (fun e x h1 h2 => by
          rw [Bool.eq_false_iff]
          intro hx
          have := hUp.out x h1 (by omega) hx
          rw [hT, e] at this
          cases this)
        have hhi2 : Hid (t = true → mid ≤ b → decide (yh < (valV xs mid).2) = true) := Lib.hid (fun e _ => by rw [hT, e])
        clear hUp hDn hV
        generalize hvv : valV xs mid = v at cV hT
        clear hvv
        cases t
        · go_wp2_with fail
          refine (cF.out _).mono ?_
          rintro e w1 ⟨rfl, rfl⟩
          go_wp2_with fail
          refine (cV.out _ hB).mono ?_
          rintro e w2 ⟨rfl, hb'⟩
          replace e0 := cell_next hb' hz e0
          replace e1 := cell_next hb' hz e1
          replace hB := hB.trans (hb'.mono hB.size)
          replace hz := Nat.lt_of_lt_of_le hz hb'.size
          clear hb' cF cV
          have e0' : ∀ o, (w2.alloc o).cell? ⟨w.heap.size, 0, none⟩ = _ := fun o => (((Below.refl w2.heap.size w2).alloc (Nat.le_refl _) o).cell (p := ⟨w.heap.size, 0, none⟩) hz).trans e0
          have e1' : ∀ o, (w2.alloc o).cell? ⟨w.heap.size, 1, none⟩ = _ := fun o => (((Below.refl w2.heap.size w2).alloc (Nat.le_refl _) o).cell (p := ⟨w.heap.size, 1, none⟩) hz).trans e1
          have hB2 := fun o => hB.alloc hB.size o
          go_wp2_with fail
          go_roundw
          case rel => exact ⟨mid + 1, h, by go_num, rfl, by omega, by omega, l3, Lib.hid (hlo2.out (by simp)), hhi, hB2 _, by simp; omega, e0' _, e1' _⟩
          case measure => simp [intOf]; omega
        · go_wp2_with fail
          refine (cF.out _).mono ?_
          rintro e w1 ⟨rfl, rfl⟩
          go_wp2_with fail
          refine (cV.out _ hB).mono ?_
          rintro e w2 ⟨rfl, hb'⟩
          replace e0 := cell_next hb' hz e0
          replace e1 := cell_next hb' hz e1
          replace hB := hB.trans (hb'.mono hB.size)
          replace hz := Nat.lt_of_lt_of_le hz hb'.size
          clear hb' cF cV
          have e0' : ∀ o, (w2.alloc o).cell? ⟨w.heap.size, 0, none⟩ = _ := fun o => (((Below.refl w2.heap.size w2).alloc (Nat.le_refl _) o).cell (p := ⟨w.heap.size, 0, none⟩) hz).trans e0
          have e1' : ∀ o, (w2.alloc o).cell? ⟨w.heap.size, 1, none⟩ = _ := fun o => (((Below.refl w2.heap.size w2).alloc (Nat.le_refl _) o).cell (p := ⟨w.heap.size, 1, none⟩) hz).trans e1
          have hB2 := fun o => hB.alloc hB.size o
          go_wp2_with fail
          go_roundw
          case rel => exact ⟨l, mid, rfl, rfl, l1, by omega, by omega, hlo, Lib.hid (hhi2.out (by simp)), hB2 _, by simp; omega, e0' _, e1' _⟩
          case measure => simp [intOf]; omega
      · obtain rfl : l = h := by omega
        have hq := Lib.hid (hQ.out l wr ⟨l1, l3, fun x h1 h2 => hlo.out x h1 h2, fun hh => hhi.out hh⟩ hB)
        go_wp2_with fail
        exact hq.out
end Go.Proofs.Ytfkkddbghogffaa
