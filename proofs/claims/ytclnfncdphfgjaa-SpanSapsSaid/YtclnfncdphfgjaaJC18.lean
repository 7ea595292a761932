/- Contracts: PS2, Z5, V0, V1, joined. -/
import Derived.Test.YtclnfncdphfgjaaJC15
import Derived.Test.YtclnfncdphfgjaaJC17
import Derived.Test.YtclnfncdphfgjaaJC13
import Derived.Lib.OwnBridge
namespace Go.Proofs.Ytclnfncdphfgjaa
open Go.Sort
set_option linter.unusedVariables false
set_option linter.unusedSimpArgs false

/-- in order within each block of bs places, and each number in the block to which it belongs -/
def SB {α : Type} [Inhabited α] (lt : α → α → Bool) (ix : α → Nat) (bs lo hi : Nat) (d : Array α) : Prop :=
  (∀ i j, lo ≤ i → i < j → j < hi → i / bs = j / bs → ttB lt ix d[i]! d[j]! = true) ∧ ∀ k, lo ≤ k → k < hi → ix d[k]! / bs = k / bs

theorem SB.ins {α : Type} [Inhabited α] {lt : α → α → Bool} {ix : α → Nat} {A t b n : Nat} {d d' : Array α} (h : SB lt ix 20 0 A d) (hu : ∀ k, A ≤ k → k < n → ix d[k]! = k) (hA : A = 20 * t) (h1 : A ≤ b) (h2 : b ≤ A + 20) (h3 : b ≤ n) (hn : n ≤ d.size)
    (m : Mv d d' A b) (s : Srt lt ix d' A b) : SB lt ix 20 0 b d' ∧ ∀ k, b ≤ k → k < n → ix d'[k]! = k := by
  refine ⟨⟨fun i j p q r e => ?_, fun k p q => ?_⟩, fun k p q => by rw [m.out k (.inr p)]; exact hu k (by omega) q⟩
  · by_cases hj : j < A
    · rw [m.out i (.inl (by omega)), m.out j (.inl hj)]; exact h.1 i j p q hj e
    · exact s i j (by omega) q r
  · by_cases hk : k < A
    · rw [m.out k (.inl hk)]; exact h.2 k p hk
    · exact m.all (by omega) (fun x => ix x / 20 = k / 20) (fun l l1 l2 => by rw [hu l l1 (by omega)]; omega) k (by omega) q

theorem blk_a {bs A t i : Nat} (hb : 0 < bs) (hA : A = 2 * bs * t) (h1 : A ≤ i) (h2 : i < A + bs) : i / bs = 2 * t := by
  refine Nat.div_eq_of_lt_le ?_ ?_
  · rw [show 2 * t * bs = A by rw [hA, Nat.mul_right_comm]]; exact h1
  · rw [Nat.succ_mul, show 2 * t * bs = A by rw [hA, Nat.mul_right_comm]]; exact h2
theorem blk_b {bs A t i : Nat} (hb : 0 < bs) (hA : A = 2 * bs * t) (h1 : A + bs ≤ i) (h2 : i < A + 2 * bs) : i / bs = 2 * t + 1 := by
  refine Nat.div_eq_of_lt_le ?_ ?_
  · rw [Nat.succ_mul, show 2 * t * bs = A by rw [hA, Nat.mul_right_comm]]; exact h1
  · rw [Nat.succ_mul, Nat.succ_mul, show 2 * t * bs = A by rw [hA, Nat.mul_right_comm]]; omega
theorem blk_c {bs A t i : Nat} (hb : 0 < bs) (hA : A = 2 * bs * t) (h1 : A ≤ i) (h2 : i < A + 2 * bs) : i / (2 * bs) = t := by
  refine Nat.div_eq_of_lt_le ?_ ?_
  · rw [Nat.mul_comm, ← hA]; exact h1
  · rw [Nat.succ_mul, Nat.mul_comm t, ← hA]; exact h2
theorem blk_lt {bs A t i : Nat} (hb : 0 < bs) (hA : A = 2 * bs * t) (h1 : i < A) : i / (2 * bs) < t := by
  rw [Nat.div_lt_iff_lt_mul (by omega), Nat.mul_comm, ← hA]; exact h1
theorem blk_two {bs i j : Nat} (h : i / bs = j / bs) : i / (2 * bs) = j / (2 * bs) := by
  rw [Nat.mul_comm, ← Nat.div_div_eq_div_mul, ← Nat.div_div_eq_div_mul, h]
theorem lt_of_blk {bs i j : Nat} (h : i / bs < j / bs) : i < j := by
  apply Classical.byContradiction
  intro hn
  have := Nat.div_le_div_right (c := bs) (Nat.le_of_not_lt hn)
  omega

theorem SB.pre {α : Type} [Inhabited α] {lt : α → α → Bool} {ix : α → Nat} {bs A t b n : Nat} {d : Array α} (h : SB lt ix bs A n d) (hb : 0 < bs) (hA : A = 2 * bs * t) (h1 : A + bs ≤ b) (h2 : b ≤ A + 2 * bs) (h3 : b ≤ n) :
    Srt lt ix d A (A + bs) ∧ Srt lt ix d (A + bs) b ∧ Lft ix d A (A + bs) b := by
  refine ⟨fun i j p q r => h.1 i j p q (by omega) ?_, fun i j p q r => h.1 i j (by omega) q (by omega) ?_, fun i j p q r s => ?_⟩
  · rw [blk_a hb hA p (by omega), blk_a hb hA (by omega) r]
  · rw [blk_b hb hA p (by omega), blk_b hb hA (by omega) (by omega)]
  · have x := h.2 i p (by omega)
    have y := h.2 j (by omega) (by omega)
    rw [blk_a hb hA p q] at x
    rw [blk_b hb hA r (by omega)] at y
    exact lt_of_blk (bs := bs) (by omega)

theorem SB.merge {α : Type} [Inhabited α] {lt : α → α → Bool} {ix : α → Nat} {bs A t b n : Nat} {d d' : Array α} (h0 : SB lt ix (2 * bs) 0 A d) (h : SB lt ix bs A n d) (hb : 0 < bs) (hA : A = 2 * bs * t) (h1 : A ≤ b) (h2 : b ≤ A + 2 * bs) (h3 : b ≤ n) (hn : n ≤ d.size)
    (m : Mv d d' A b) (s : Srt lt ix d' A b) : SB lt ix (2 * bs) 0 b d' ∧ SB lt ix bs b n d' := by
  refine ⟨⟨fun i j p q r e => ?_, fun k p q => ?_⟩, ⟨fun i j p q r e => ?_, fun k p q => ?_⟩⟩
  · by_cases hj : j < A
    · rw [m.out i (.inl (by omega)), m.out j (.inl hj)]; exact h0.1 i j p q hj e
    · by_cases hi : i < A
      · have x := blk_lt hb hA hi
        have y := blk_c hb hA (show A ≤ j by omega) (by omega)
        omega
      · exact s i j (by omega) q r
  · by_cases hk : k < A
    · rw [m.out k (.inl hk)]; exact h0.2 k p hk
    · rw [blk_c hb hA (show A ≤ k by omega) (by omega)]
      exact m.all (by omega) (fun x => ix x / (2 * bs) = t) (fun l l1 l2 => by rw [blk_two (h.2 l l1 (by omega)), blk_c hb hA l1 (by omega)]) k (by omega) q
  · rw [m.out i (.inr p), m.out j (.inr (by omega))]; exact h.1 i j (by omega) q r e
  · rw [m.out k (.inr p)]; exact h.2 k (by omega) q

theorem SB.rest {α : Type} [Inhabited α] {lt : α → α → Bool} {ix : α → Nat} {bs A t n : Nat} {d : Array α} (h0 : SB lt ix (2 * bs) 0 A d) (h : SB lt ix bs A n d) (hb : 0 < bs) (hA : A = 2 * bs * t) (h1 : A ≤ n) (h2 : n ≤ A + bs) (hn : n ≤ d.size) : SB lt ix (2 * bs) 0 n d := by
  refine (SB.merge h0 h hb hA h1 (by omega) (Nat.le_refl _) hn (Mv.refl d A n) fun i j p q r => h.1 i j p q r ?_).1
  rw [blk_a hb hA p (by omega), blk_a hb hA (by omega) (by omega)]
theorem SB.done {α : Type} [Inhabited α] {lt : α → α → Bool} {ix : α → Nat} {bs n : Nat} {d : Array α} (h : SB lt ix bs 0 n d) (h1 : n ≤ bs) : Srt lt ix d 0 n := fun i j p q r =>
  h.1 i j p q r (by rw [Nat.div_eq_of_lt (by omega), Nat.div_eq_of_lt (by omega)])

open Go.Shelf Go.RowKit Go.Lib Go.Sort
set_option linter.unusedVariables false
set_option linter.unusedSimpArgs false

theorem ins_step {α : Type} [Inhabited α] {cf : α → α → Int} {ix : α → Nat} {e dj : Array α} {a i j : Nat} (hl : Lft ix e a i (i + 1)) (R : Rot e dj (j + 1) i (i + 1)) (h1 : a ≤ j) (h2 : j + 1 ≤ i) (h3 : i < e.size) (h : (ltOf cf) dj[j + 1]! dj[j]! = true) :
    Rot e (swp dj (j + 1) j) j i (i + 1) ∧ ttB (ltOf cf) ix e[i]! e[j]! = true := by
  refine ⟨walk_down R h2 h3, ?_⟩
  rw [R.b (j + 1) (Nat.le_refl _) (by omega) (by omega), R.a j (by omega) (by omega), show j + 1 + (i - (j + 1)) = i by omega] at h
  exact test_true hl h1 (by omega) (Nat.le_refl _) (by omega) h
theorem ins_done {α : Type} [Inhabited α] {cf : α → α → Int} (hS : SWO (ltOf cf)) {ix : α → Nat} {e dj : Array α} {a i j : Nat} (hs : Srt (ltOf cf) ix e a i) (hl : Lft ix e a i (i + 1)) (R : Rot e dj j i (i + 1)) (h1 : a ≤ j) (h2 : j ≤ i) (h3 : i < e.size)
    (c1 : j < i → ttB (ltOf cf) ix e[i]! e[j]! = true) (h : j ≤ a ∨ (ltOf cf) dj[j]! dj[j - 1]! = false) : Mv e dj a (i + 1) ∧ Srt (ltOf cf) ix dj a (i + 1) := by
  refine cut_last hS hs hl h1 h2 (by omega) c1 (fun ha => ?_) R
  rcases h with h | h
  · omega
  · rw [R.b j (Nat.le_refl _) (by omega) (by omega), R.a (j - 1) (by omega) (by omega), show j + (i - j) = i by omega] at h
    exact test_false hS hl (by omega) (by omega) (Nat.le_refl _) (by omega) h

set_option maxHeartbeats 4000000 in
set_option maxRecDepth 1000000 in
theorem insertion_s {α : Type} [Inhabited α] (enc : α → Value) (cf : α → α → Int) (g : Nat) (cb : Array Value) (blk off cap : Nat) (d0 : Array α) (w0 : World) (eg : ∀ args w, (callFunc g args).run Try.prog w = .ok (.enter g args) w)
    (hcmp : CmpLays1 Try.prog g cb enc cf blk off d0.size w0) (hS : SWO (ltOf cf)) (ix : α → Nat) (R : Row1 enc w0 blk off d0) (hsz : d0.size < 1000000000) (a b : Nat) (d : Array α) (w : World) (hs : d0.size = d.size) (S : SW enc w0 blk off d w)
    (hab : a ≤ b) (hb : b ≤ d.size) (hu : ∀ k l, a ≤ k → k < l → l < b → ix d[k]! < ix d[l]!) :
    Calls Try.prog 152 #[.slice (some ⟨blk, off, none⟩) d.size cap, .int .i64 a, .int .i64 b, .func (.func g) #[] cb] w fun e w' => e = .returned (.tuple #[]) ∧ ∃ d', SW enc w0 blk off d' w' ∧ Mv d d' a b ∧ Srt (ltOf cf) ix d' a b := by
  have mixed := mixedP
  have hcl0 := R.hO.cells
  simp only [Value.cells] at hcl0
  have hst := R.hO.store Try.prog
  have S0 : Aside (SW enc w0 blk off d w) := S
  have HC : Aside _ := hcmp
  have HU : Aside (∀ k l, a ≤ k → k < l → l < b → ix d[k]! < ix d[l]!) := hu
  clear S hcmp hu
  go_enter Try.func152, Try.ntmps152
  go_wp2_with fail
  go_loopg [8] (b - a) (fun g1 vi wr => ∃ (i : Nat) (dk : Array α), vi = .int .i64 i ∧ a < i ∧ (i ≤ b ∨ b = a) ∧ b - i ≤ g1 ∧ dk.size = d.size ∧ Aside (SW enc w0 blk off dk wr) ∧ Aside ((b = a → dk = d) ∧ (a < b → Mv d dk a i ∧ Srt (ltOf cf) ix dk a i)))
  case atStart => exact ⟨a + 1, d, by go_num, by omega, by omega, by omega, rfl, S0, fun _ => rfl, fun _ => ⟨Mv.refl _ _ _, Srt.one (Nat.le_refl _)⟩⟩
  case round =>
    clear S0
    obtain ⟨i, dk, rfl, hai, hib, hg1, hsk, S1, HO⟩ := hrel
    by_cases hlt : i < b
    · have hltz : (i : Int) < (b : Int) := by omega
      have hLf : Aside (Lft ix dk a i (i + 1)) := fun k l p q r s => by
        obtain rfl : l = i := by omega
        have M := (HO.out.2 (by omega)).1
        rw [M.out l (.inr (Nat.le_refl _))]
        exact M.all (by omega) (fun x => ix x < ix d[l]!) (fun q1 q2 q3 => HU.out q1 l q2 q3 hlt) k p q
      go_wp2_with fail
      go_loopg [9] i (fun g2 vj wr2 => ∃ (j : Nat) (dj : Array α), vj = .int .i64 j ∧ a ≤ j ∧ j ≤ i ∧ j ≤ g2 ∧ dj.size = d.size ∧ Aside (SW enc w0 blk off dj wr2) ∧ Aside (Rot dk dj j i (i + 1) ∧ (j < i → ttB (ltOf cf) ix dk[i]! dk[j]! = true)))
      case atStart => exact ⟨i, dk, rfl, by omega, Nat.le_refl _, Nat.le_refl _, hsk, S1, Rot.none dk i i (i + 1) (.inl rfl) (Nat.le_refl _) (Nat.le_succ i), fun h => by omega⟩
      case round =>
        clear S1
        obtain ⟨j, dj, rfl, haj, hji, hg2, hsj, SJ, HI⟩ := hrel
        have hout : (j ≤ a ∨ (ltOf cf) dj[j]! dj[j - 1]! = false) → (b = a → dj = d) ∧ (a < b → Mv d dj a (i + 1) ∧ Srt (ltOf cf) ix dj a (i + 1)) := fun hst => by
          refine ⟨fun e => by omega, fun _ => ?_⟩
          obtain ⟨M, T⟩ := HO.out.2 (by omega)
          have h := ins_done hS T hLf.out HI.out.1 haj hji (by omega) HI.out.2 hst
          exact ⟨(M.mono (Nat.le_refl _) (Nat.le_succ i)).trans h.1 (by omega), h.2⟩
        have OUT : Aside _ := hout
        clear hout
        by_cases hja : a < j
        · obtain ⟨p, rfl⟩ : ∃ p, j = p + 1 := ⟨j - 1, by omega⟩
          have zp : ((p + 1 : Nat) : Int) = (p : Int) + 1 := rfl
          rw [zp]
          have hjad : decide ((p : Int) + 1 > (a : Int)) = true := decide_eq_true (by omega)
          have hjaz' : (a : Int) < (p : Int) + 1 := by omega
          have w3 : IntKind.i64.wrap ((p : Int) + 1 - 1) = (p : Int) := by rw [IntKind.wrap_i64]; omega
          have w4 : (p : Int) + 1 - 1 = (p : Int) := by omega
          cases hlv : (ltOf cf) dj[p + 1]! dj[p]! with
          | true =>
            have hnx := ins_step (cf := cf) hLf.out HI.out.1 (by omega) hji (by omega) hlv
            have HN : Aside (Rot dk (swp dj (p + 1) p) p i (i + 1) ∧ (p < i → ttB (ltOf cf) ix dk[i]! dk[p]! = true)) := ⟨hnx.1, fun _ => hnx.2⟩
            clear hnx OUT HI
            obtain ⟨iN21, hiN21⟩ : ∃ q9, q9 = p + 1 := ⟨_, rfl⟩
            obtain ⟨jN21, hjN21⟩ : ∃ q9, q9 = p := ⟨_, rfl⟩
            have ea21 : ((p : Int) + 1).toNat = iN21 := by omega
            have pa21 : (0 : Int) ≤ (p : Int) + 1 := by omega
            have ba21 : (p : Int) + 1 < (d.size : Int) := by omega
            have ra21 : IntKind.i64.wrap ((p : Int) + 1) = (p : Int) + 1 := by rw [IntKind.wrap_i64]; omega
            have ec21 : ((p : Int)).toNat = jN21 := by omega
            have pc21 : (0 : Int) ≤ (p : Int) := by omega
            have bc21 : (p : Int) < (d.size : Int) := by omega
            have rc21 : IntKind.i64.wrap ((p : Int)) = (p : Int) := by rw [IntKind.wrap_i64]; omega
            obtain ⟨x21, hx21⟩ : ∃ v9, v9 = dj[p + 1]! := ⟨_, rfl⟩
            obtain ⟨y21, hy21⟩ : ∃ v9, v9 = dj[p]! := ⟨_, rfl⟩
            have l21a := SJ.out.cl R (by omega) (p + 1) (by omega)
            have l21b := SJ.out.cl R (by omega) (p) (by omega)
            rw [← hx21, ← hiN21] at l21a
            rw [← hy21, ← hjN21] at l21b
            have hc21 := SJ.out.cmp HC.out (by omega) x21 y21
            have hv21 : cf x21 y21 < 0 := by rw [hx21, hy21]; exact of_decide_eq_true hlv
            have hd21 : decide (cf x21 y21 < 0) = true := decide_eq_true hv21
            clear hx21 hy21 hiN21 hjN21
            go_wp2_with fail
            go_quiet_grown (first | (go_at_fn g; refine Calls.grown_of (hc21 _ _)))
            have S2 : Aside (SW enc w0 blk off dj (grow (wr.drewN nq) osq)) := SJ.out.grown nq osq
            clear l21a l21b hc21 SJ
            generalize grow (wr.drewN nq) osq = w2 at S2 ⊢
            clear nq osq
            clear ea21 ec21

            go_wp2_with fail
            obtain ⟨iN22, hiN22⟩ : ∃ q9, q9 = p + 1 := ⟨_, rfl⟩
            obtain ⟨jN22, hjN22⟩ : ∃ q9, q9 = p := ⟨_, rfl⟩
            have ea22 : ((p : Int) + 1).toNat = iN22 := by omega
            have pa22 : (0 : Int) ≤ (p : Int) + 1 := by omega
            have ba22 : (p : Int) + 1 < (d.size : Int) := by omega
            have ra22 : IntKind.i64.wrap ((p : Int) + 1) = (p : Int) + 1 := by rw [IntKind.wrap_i64]; omega
            have ec22 : ((p : Int)).toNat = jN22 := by omega
            have pc22 : (0 : Int) ≤ (p : Int) := by omega
            have bc22 : (p : Int) < (d.size : Int) := by omega
            have rc22 : IntKind.i64.wrap ((p : Int)) = (p : Int) := by rw [IntKind.wrap_i64]; omega
            obtain ⟨x22, hx22⟩ : ∃ v9, v9 = dj[p + 1]! := ⟨_, rfl⟩
            obtain ⟨y22, hy22⟩ : ∃ v9, v9 = dj[p]! := ⟨_, rfl⟩
            have S3 : Aside (SW enc w0 blk off (swp dj (p + 1) (p)) ((w2.setCell ⟨blk, off + iN22, none⟩ (enc y22)).setCell ⟨blk, off + jN22, none⟩ (enc x22)).drew) := by rw [hiN22, hjN22, hx22, hy22]; exact S2.out.swapped R (p + 1) (p) (by omega) (by omega)
            have c22a := S2.out.c1 R (by omega) (p + 1) (by omega)
            have c22b := S2.out.c1 R (by omega) (p) (by omega)
            have f22a := S2.out.f1 R (by omega) (p + 1) (by omega)
            have f22b := S2.out.f1 R (by omega) (p) (by omega)
            obtain ⟨u22, c22c⟩ := S2.out.c2 R (by omega) (p + 1) (p) (by omega) (by omega) (enc y22)
            first | rw [← hjN22, ← hiN22] at c22c | rw [← hiN22, ← hjN22] at c22c
            rw [← hx22, ← hiN22] at c22a
            rw [← hy22, ← hjN22] at c22b
            rw [← hiN22] at f22a
            rw [← hjN22] at f22b
            clear S2 hx22 hy22 hiN22 hjN22
            go_wp2_with fail
            go_big_region_o
            clear c22a c22b c22c f22a f22b
            generalize ((w2.setCell ⟨blk, off + iN22, none⟩ (enc y22)).setCell ⟨blk, off + jN22, none⟩ (enc x22)).drew = w3x at S3 ⊢
            clear ea22 ec22

            go_wp2_with fail
            go_roundg p
            case measure => omega
            case rel => exact ⟨p, _, by go_num, by omega, by omega, Nat.le_refl _, by rw [size_swp]; exact hsj, S3, HN⟩
          | false =>
            have HX : Aside ((b = a → dj = d) ∧ (a < b → Mv d dj a (i + 1) ∧ Srt (ltOf cf) ix dj a (i + 1))) := OUT.out (.inr (by rw [Nat.add_sub_cancel]; exact hlv))
            clear OUT HI
            obtain ⟨iN23, hiN23⟩ : ∃ q9, q9 = p + 1 := ⟨_, rfl⟩
            obtain ⟨jN23, hjN23⟩ : ∃ q9, q9 = p := ⟨_, rfl⟩
            have ea23 : ((p : Int) + 1).toNat = iN23 := by omega
            have pa23 : (0 : Int) ≤ (p : Int) + 1 := by omega
            have ba23 : (p : Int) + 1 < (d.size : Int) := by omega
            have ra23 : IntKind.i64.wrap ((p : Int) + 1) = (p : Int) + 1 := by rw [IntKind.wrap_i64]; omega
            have ec23 : ((p : Int)).toNat = jN23 := by omega
            have pc23 : (0 : Int) ≤ (p : Int) := by omega
            have bc23 : (p : Int) < (d.size : Int) := by omega
            have rc23 : IntKind.i64.wrap ((p : Int)) = (p : Int) := by rw [IntKind.wrap_i64]; omega
            obtain ⟨x23, hx23⟩ : ∃ v9, v9 = dj[p + 1]! := ⟨_, rfl⟩
            obtain ⟨y23, hy23⟩ : ∃ v9, v9 = dj[p]! := ⟨_, rfl⟩
            have l23a := SJ.out.cl R (by omega) (p + 1) (by omega)
            have l23b := SJ.out.cl R (by omega) (p) (by omega)
            rw [← hx23, ← hiN23] at l23a
            rw [← hy23, ← hjN23] at l23b
            have hc23 := SJ.out.cmp HC.out (by omega) x23 y23
            have hv23 : ¬ cf x23 y23 < 0 := by rw [hx23, hy23]; exact of_decide_eq_false hlv
            have hd23 : decide (cf x23 y23 < 0) = false := decide_eq_false hv23
            clear hx23 hy23 hiN23 hjN23
            go_wp2_with fail
            go_quiet_grown (first | (go_at_fn g; refine Calls.grown_of (hc23 _ _)))
            have S2 : Aside (SW enc w0 blk off dj (grow (wr.drewN nq) osq)) := SJ.out.grown nq osq
            clear l23a l23b hc23 SJ
            generalize grow (wr.drewN nq) osq = w2 at S2 ⊢
            clear nq osq
            clear ea23 ec23

            go_wp2_with fail
            go_roundg (b - (i + 1))
            case measure => omega
            case rel => exact ⟨i + 1, dj, by go_num, by omega, by omega, by omega, hsj, S2, HX⟩
        · have hjaz : decide ((j : Int) > (a : Int)) = false := decide_eq_false (by omega)
          have hjaz' : ¬ (a : Int) < (j : Int) := by omega
          have HX : Aside ((b = a → dj = d) ∧ (a < b → Mv d dj a (i + 1) ∧ Srt (ltOf cf) ix dj a (i + 1))) := OUT.out (.inl (by omega))
          clear OUT HI
          go_wp2_with fail
          go_big_region_o
          have S2 : Aside (SW enc w0 blk off dj wr.drew) := SJ.out.drew
          clear SJ
          generalize wr.drew = w2 at S2 ⊢
          go_wp2_with fail
          go_roundg (b - (i + 1))
          case measure => omega
          case rel => exact ⟨i + 1, dj, by go_num, by omega, by omega, by omega, hsj, S2, HX⟩
    · have hltz : ¬ (i : Int) < (b : Int) := by omega
      have hfin : Mv d dk a b ∧ Srt (ltOf cf) ix dk a b := by
        by_cases e : b = a
        · rw [HO.out.1 e, e]; exact ⟨Mv.refl _ _ _, Srt.one (by omega)⟩
        · obtain rfl : i = b := by omega
          exact HO.out.2 hai
      have HF : Aside _ := hfin
      clear hfin HO
      go_wp2_with fail
      go_end0
      exact ⟨rfl, dk, S1.out, HF.out⟩

set_option maxHeartbeats 4000000 in
set_option maxRecDepth 1000000 in
theorem stable_s {α : Type} [Inhabited α] (enc : α → Value) (cf : α → α → Int) (g : Nat) (cb : Array Value) (blk off cap : Nat) (d0 : Array α) (w0 : World) (eg : ∀ args w, (callFunc g args).run Try.prog w = .ok (.enter g args) w)
    (hcmp : CmpLays1 Try.prog g cb enc cf blk off d0.size w0) (hS : SWO (ltOf cf)) (ix : α → Nat) (R : Row1 enc w0 blk off d0) (hsz : d0.size < 1000000000) (hix : ∀ k, k < d0.size → ix d0[k]! = k) :
    Calls Try.prog 137 #[.slice (some ⟨blk, off, none⟩) d0.size cap, .int .i64 d0.size, .func (.func g) #[] cb] w0 fun e w' => e = .returned (.tuple #[]) ∧ ∃ d', SW enc w0 blk off d' w' ∧ Mv d0 d' 0 d0.size ∧ Srt (ltOf cf) ix d' 0 d0.size := by
  have S0 : Aside (SW enc w0 blk off d0 w0) := SW.start R.hH
  have HC : Aside _ := hcmp
  have HIX : Aside (∀ k, k < d0.size → ix d0[k]! = k) := hix
  clear hcmp hix
  go_enter Try.func137, Try.ntmps137
  go_wp2_with fail
  go_loopg [7, 8] d0.size (fun g1 va vb wr => ∃ (A B t : Nat) (dk : Array α), va = .int .i64 A ∧ vb = .int .i64 B ∧ Hid (A = 20 * t) ∧ Hid (B = A + 20) ∧ A ≤ d0.size ∧ d0.size - A ≤ g1 ∧ dk.size = d0.size ∧ Aside (SW enc w0 blk off dk wr) ∧ Aside (SB (ltOf cf) ix 20 0 A dk ∧ ∀ k, A ≤ k → k < d0.size → ix dk[k]! = k) ∧ Aside (Mv d0 dk 0 d0.size))
  case atStart => exact ⟨0, 20, 0, d0, rfl, rfl, Lib.hid rfl, Lib.hid rfl, Nat.zero_le _, Nat.le_refl _, rfl, S0, ⟨⟨fun i j p q r => by omega, fun k p q => by omega⟩, fun k p q => HIX.out k q⟩, Mv.refl _ _ _⟩
  case round =>
    clear S0
    obtain ⟨A, B, t, dk, rfl, rfl, hA', hB', hAn, hg1, hsk, S1, HB, M1⟩ := hrel
    have hA := hA'.out
    have hB := hB'.out
    by_cases hlt : B ≤ d0.size
    · have hltz : (B : Int) ≤ (d0.size : Int) := by omega
      have wz : IntKind.i64.wrap ((B : Int) + 20) = (B : Int) + 20 := IntWalk.i64_in _ (by omega)
      have hc := insertion_s enc cf g cb blk off cap d0 w0 eg HC.out hS ix R hsz A B dk wr hsk.symm S1.out (by omega) (by omega) (fun k l p q r => by rw [HB.out.2 k (by omega) (by omega), HB.out.2 l (by omega) (by omega)]; exact q)
      rw [hsk] at hc
      have HCC := Lib.hid hc
      clear hc S1 hA hB
      go_wp2_with fail
      refine HCC.out.mono ?_
      rintro e9 w2 ⟨rfl, d', S2', m', t'⟩
      have hA := hA'.out
      have hB := hB'.out
      have S2 : Aside (SW enc w0 blk off d' w2) := S2'
      have HB2 : Aside (SB (ltOf cf) ix 20 0 B d' ∧ ∀ k, B ≤ k → k < d0.size → ix d'[k]! = k) := HB.out.1.ins HB.out.2 hA (by omega) (by omega) (by omega) (by omega) m' t'
      have M2 : Aside (Mv d0 d' 0 d0.size) := M1.out.trans (m'.mono (Nat.zero_le _) (by omega)) (Nat.le_refl _)
      have hsk2 : d'.size = d0.size := m'.1.trans hsk
      clear S2' m' t' HCC HB M1 hA hB

      go_wp2_with fail
      go_roundg (d0.size - B)
      case measure => (have := hB'.out; omega)
      case rel => exact ⟨B, B + 20, t + 1, d', rfl, by go_num, Lib.hid (by have := hA'.out; have := hB'.out; omega), Lib.hid rfl, hlt, Nat.le_refl _, hsk2, S2, HB2, M2⟩
    · have hltz : ¬ (B : Int) ≤ (d0.size : Int) := by omega
      have hc := insertion_s enc cf g cb blk off cap d0 w0 eg HC.out hS ix R hsz A d0.size dk wr hsk.symm S1.out (by omega) (by omega) (fun k l p q r => by rw [HB.out.2 k (by omega) (by omega), HB.out.2 l (by omega) (by omega)]; exact q)
      rw [hsk] at hc
      have HCC := Lib.hid hc
      clear hc S1 hA hB
      go_wp2_with fail
      refine HCC.out.mono ?_
      rintro e9 w2 ⟨rfl, d', S2', m', t'⟩
      have hA := hA'.out
      have hB := hB'.out
      have S2 : Aside (SW enc w0 blk off d' w2) := S2'
      have HB2 : Aside (SB (ltOf cf) ix 20 0 d0.size d' ∧ ∀ k, d0.size ≤ k → k < d0.size → ix d'[k]! = k) := HB.out.1.ins HB.out.2 hA (by omega) (by omega) (by omega) (by omega) m' t'
      have M2 : Aside (Mv d0 d' 0 d0.size) := M1.out.trans (m'.mono (Nat.zero_le _) (by omega)) (Nat.le_refl _)
      have hsk2 : d'.size = d0.size := m'.1.trans hsk
      clear S2' m' t' HCC HB M1 hA hB

      have HB3 : Aside (SB (ltOf cf) ix 20 0 d0.size d') := HB2.out.1
      clear HB2 hA' hB' hg1 hlt hltz hAn hsk
      go_wp2_with fail
      go_loopg [6] d0.size (fun g2 vs wr2 => ∃ (bs : Nat) (dk : Array α), vs = .int .i64 bs ∧ 20 ≤ bs ∧ d0.size - bs ≤ g2 ∧ dk.size = d0.size ∧ Aside (SW enc w0 blk off dk wr2) ∧ Aside (SB (ltOf cf) ix bs 0 d0.size dk) ∧ Aside (Mv d0 dk 0 d0.size))
      case atStart => exact ⟨20, d', rfl, Nat.le_refl _, by omega, hsk2, S2, HB3, M2⟩
      case round =>
        clear S2 HB3 M2 hsk2
        obtain ⟨bs, dk0, rfl, hbs, hg2, hsk0, S10, HB0, M10⟩ := hrel
        by_cases hlb : bs < d0.size
        · have hltz : (bs : Int) < (d0.size : Int) := by omega
          obtain ⟨bb, hbb⟩ : ∃ bb, 2 * bs = bb := ⟨_, rfl⟩
          have hbbz : 2 * (bs : Int) = (bb : Int) := by omega
          have hbbz2 : (bs : Int) * 2 = (bb : Int) := by omega
          have wbb : IntKind.i64.wrap (bb : Int) = (bb : Int) := IntWalk.i64_in _ (by omega)
          go_wp2_with fail
          go_loopg [7, 8] d0.size (fun g3 va vb wr3 => ∃ (A B t : Nat) (dk : Array α), va = .int .i64 A ∧ vb = .int .i64 B ∧ Hid (A = 2 * bs * t) ∧ Hid (B = A + bb) ∧ A ≤ d0.size ∧ d0.size - A ≤ g3 ∧ dk.size = d0.size ∧ Aside (SW enc w0 blk off dk wr3) ∧ Aside (SB (ltOf cf) ix (2 * bs) 0 A dk ∧ SB (ltOf cf) ix bs A d0.size dk) ∧ Aside (Mv d0 dk 0 d0.size))
          case atStart => exact ⟨0, bb, 0, dk0, rfl, rfl, Lib.hid rfl, Lib.hid (Nat.zero_add bb).symm, Nat.zero_le _, Nat.le_refl _, hsk0, S10, ⟨⟨fun i j p q r => by omega, fun k p q => by omega⟩, HB0.out⟩, M10⟩
          case round =>
            clear S10 HB0 M10 hsk0
            obtain ⟨A, B, t, dk, rfl, rfl, hA', hB', hAn, hg3, hsk, S1, HB, M1⟩ := hrel
            have hA : A = 2 * bs * t := hA'.out
            have hB := hB'.out
            have was : IntKind.i64.wrap ((A : Int) + (bs : Int)) = (A : Int) + (bs : Int) := IntWalk.i64_in _ (by omega)
            by_cases hlt : B ≤ d0.size
            · have hltz2 : (B : Int) ≤ (d0.size : Int) := by omega
              have wz : IntKind.i64.wrap ((B : Int) + (bb : Int)) = (B : Int) + (bb : Int) := IntWalk.i64_in _ (by omega)
              have hpre := SB.pre HB.out.2 (by omega) hA (show A + bs ≤ B by omega) (by omega) (by omega)
              have hc := symMerge_s enc cf g cb blk off cap d0 w0 eg HC.out hS ix R hsz d0.size A (A + bs) B dk wr (by omega) hsk.symm S1.out (by omega) (by omega) (by omega) hpre.1 hpre.2.1 hpre.2.2
              rw [hsk, show ((A + bs : Nat) : Int) = (A : Int) + (bs : Int) by omega] at hc
              have HCC := Lib.hid hc
              clear hc hpre S1

              clear hA hB
              go_wp2_with fail
              refine HCC.out.mono ?_
              rintro e9 w2 ⟨rfl, d', S2', m', t'⟩
              have hB := hB'.out
              have S2 : Aside (SW enc w0 blk off d' w2) := S2'
              have HB2 : Aside (SB (ltOf cf) ix (2 * bs) 0 B d' ∧ SB (ltOf cf) ix bs B d0.size d') := SB.merge HB.out.1 HB.out.2 (by omega) hA'.out (by omega) (by omega) hlt (by omega) m' t'
              have M2 : Aside (Mv d0 d' 0 d0.size) := M1.out.trans (m'.mono (Nat.zero_le _) hlt) (Nat.le_refl _)
              have hsk2 : d'.size = d0.size := m'.1.trans hsk
              have hnA : Hid (B = 2 * bs * (t + 1)) := Lib.hid (by rw [Nat.mul_succ, ← hA'.out]; omega)
              clear S2' m' t' HCC HB M1 hB
              go_wp2_with fail
              go_roundg (d0.size - B)
              case measure => (have := hB'.out; omega)
              case rel => exact ⟨B, B + bb, t + 1, d', rfl, by go_num, hnA, Lib.hid rfl, hlt, Nat.le_refl _, hsk2, S2, HB2, M2⟩
            · have hltz2 : ¬ (B : Int) ≤ (d0.size : Int) := by omega
              by_cases hm : A + bs < d0.size
              · have hmz : (A : Int) + (bs : Int) < (d0.size : Int) := by omega
                have hpre := SB.pre HB.out.2 (by omega) hA (show A + bs ≤ d0.size by omega) (by omega) (by omega)
                have hc := symMerge_s enc cf g cb blk off cap d0 w0 eg HC.out hS ix R hsz d0.size A (A + bs) d0.size dk wr (by omega) hsk.symm S1.out (by omega) (by omega) (by omega) hpre.1 hpre.2.1 hpre.2.2
                rw [hsk, show ((A + bs : Nat) : Int) = (A : Int) + (bs : Int) by omega] at hc
                have HCC := Lib.hid hc
                clear hc hpre S1

                clear hA hB
                go_wp2_with fail
                refine HCC.out.mono ?_
                rintro e9 w2 ⟨rfl, d', S2', m', t'⟩
                have hB := hB'.out
                have S2 : Aside (SW enc w0 blk off d' w2) := S2'
                have HB2 : Aside (SB (ltOf cf) ix bb 0 d0.size d') := by
                  have h := (SB.merge HB.out.1 HB.out.2 (by omega) hA'.out (by omega) (by omega) (Nat.le_refl _) (by omega) m' t').1
                  rw [hbb] at h
                  exact h
                have M2 : Aside (Mv d0 d' 0 d0.size) := M1.out.trans (m'.mono (Nat.zero_le _) (Nat.le_refl _)) (Nat.le_refl _)
                have hsk2 : d'.size = d0.size := m'.1.trans hsk
                clear S2' m' t' HCC HB M1 hB
                go_wp2_with fail
                go_roundg (d0.size - bb)
                case measure => omega
                case rel => exact ⟨bb, d', rfl, by omega, Nat.le_refl _, hsk2, S2, HB2, M2⟩
              · have hmz : ¬ (A : Int) + (bs : Int) < (d0.size : Int) := by omega
                have HB2 : Aside (SB (ltOf cf) ix bb 0 d0.size dk) := by
                  have h := SB.rest HB.out.1 HB.out.2 (by omega) hA'.out (by omega) (by omega) (by omega)
                  rw [hbb] at h
                  exact h
                clear HB hA hB
                go_wp2_with fail
                go_roundg (d0.size - bb)
                case measure => omega
                case rel => exact ⟨bb, dk, rfl, by omega, Nat.le_refl _, hsk, S1, HB2, M1⟩
        · have hltz : ¬ (bs : Int) < (d0.size : Int) := by omega
          have HF : Aside (Srt (ltOf cf) ix dk0 0 d0.size) := HB0.out.done (by omega)
          clear HB0
          go_wp2_with fail
          go_end0
          exact ⟨rfl, dk0, S10.out, M10.out, HF.out⟩

set_option maxHeartbeats 1000000 in
theorem sortStable_s {α : Type} [Inhabited α] (enc : α → Value) (cf : α → α → Int) (g : Nat) (cb : Array Value) (blk off cap : Nat) (d0 : Array α) (w0 : World) (eg : ∀ args w, (callFunc g args).run Try.prog w = .ok (.enter g args) w)
    (hcmp : CmpLays1 Try.prog g cb enc cf blk off d0.size w0) (hS : SWO (ltOf cf)) (ix : α → Nat) (R : Row1 enc w0 blk off d0) (hsz : d0.size < 1000000000) (hix : ∀ k, k < d0.size → ix d0[k]! = k) :
    Calls Try.prog 108 #[.slice (some ⟨blk, off, none⟩) d0.size cap, .func (.func g) #[] cb] w0 fun e w' => e = .returned (.tuple #[]) ∧ ∃ d', SW enc w0 blk off d' w' ∧ Mv d0 d' 0 d0.size ∧ Srt (ltOf cf) ix d' 0 d0.size := by
  have h := Lib.hid (stable_s enc cf g cb blk off cap d0 w0 eg hcmp hS ix R hsz hix)
  clear hcmp hix
  go_enter Try.func108, Try.ntmps108
  go_wp2_with fail
  refine h.out.mono ?_
  rintro e9 w1 ⟨rfl, d', h'⟩
  have H' := Lib.hid h'
  clear h' h
  go_wp2_with fail
  go_end0
  exact ⟨rfl, d', H'.out⟩

open Go.Sort
set_option linter.unusedVariables false
set_option linter.unusedSimpArgs false

/-- a goes ahead of b, or is b -/
def leV (vs : List Int) (a b : Nat) : Bool := decide (vs.getD b 0 < vs.getD a 0) || (decide (vs.getD a 0 = vs.getD b 0) && decide (a ≤ b))
theorem leV_iff {vs : List Int} {a b : Nat} : leV vs a b = true ↔ vs.getD b 0 < vs.getD a 0 ∨ (vs.getD a 0 = vs.getD b 0 ∧ a ≤ b) := by simp [leV]
theorem leV_trans (vs : List Int) (a b c : Nat) (h1 : leV vs a b = true) (h2 : leV vs b c = true) : leV vs a c = true := by
  rw [leV_iff] at *; omega
theorem leV_total (vs : List Int) (a b : Nat) : (leV vs a b || leV vs b a) = true := by
  rw [Bool.or_eq_true, leV_iff, leV_iff]; omega
theorem leV_anti {vs : List Int} {a b : Nat} (h1 : leV vs a b = true) (h2 : leV vs b a = true) : a = b := by
  rw [leV_iff] at *; omega
/-- the numbers of the values, from the greatest to the least one -/
def odN (vs : List Int) : List Nat := (List.range vs.length).mergeSort (leV vs)
theorem odN_perm (vs : List Int) : (odN vs).Perm (List.range vs.length) := List.mergeSort_perm _ _
theorem odN_length (vs : List Int) : (odN vs).length = vs.length := by rw [(odN_perm vs).length_eq, List.length_range]
theorem odN_lt {vs : List Int} {k : Nat} (h : k ∈ odN vs) : k < vs.length := List.mem_range.1 ((odN_perm vs).mem_iff.1 h)
theorem odN_mem {vs : List Int} {k : Nat} (h : k < vs.length) : k ∈ odN vs := (odN_perm vs).mem_iff.2 (List.mem_range.2 h)
theorem odN_nodup (vs : List Int) : (odN vs).Nodup := (odN_perm vs).nodup_iff.2 List.nodup_range
theorem odN_pair (vs : List Int) : (odN vs).Pairwise fun a b => leV vs a b = true :=
  List.pairwise_mergeSort (fun a b c h1 h2 => leV_trans vs a b c h1 h2) (fun a b => leV_total vs a b) _
theorem odN_unique {vs : List Int} {os : List Nat} (hp : os.Perm (List.range vs.length)) (hs : os.Pairwise fun a b => leV vs a b = true) : os = odN vs :=
  (hp.trans (odN_perm vs).symm).eq_of_pairwise (fun a b _ _ h1 h2 => leV_anti h1 h2) hs (odN_pair vs)
/-- the t-th number goes ahead of all that come later -/
theorem odN_first {vs : List Int} {t s : Nat} (hts : t < s) (hs : s < vs.length) : leV vs ((odN vs).getD t 0) ((odN vs).getD s 0) = true := by
  have hl := odN_length vs
  rw [List.getD_eq_getElem?_getD, List.getD_eq_getElem?_getD, List.getElem?_eq_getElem (by omega), List.getElem?_eq_getElem (by omega)]
  exact List.pairwise_iff_getElem.1 (odN_pair vs) t s (by omega) (by omega) hts

/-- how the closure compares: the value of the second number less that of the first one -/
def cfV (vs : List Int) {m : Nat} (x y : Fin m) : Int := vs.getD y.val 0 - vs.getD x.val 0
def ltV (vs : List Int) {m : Nat} (x y : Fin m) : Bool := decide (cfV vs x y < 0)
theorem ltV_iff {vs : List Int} {m : Nat} {x y : Fin m} : ltV vs x y = true ↔ vs.getD y.val 0 < vs.getD x.val 0 := by simp [ltV, cfV]; omega
theorem ltV_swo (vs : List Int) (m : Nat) : SWO (ltV vs (m := m)) where
  irrefl x := by simp [ltV, cfV]
  trans x y z h1 h2 := by rw [ltV_iff] at *; omega
  ntrans x y z h1 h2 := by
    rw [← Bool.not_eq_true] at *
    rw [ltV_iff] at *
    omega
theorem ttV_le {vs : List Int} {m : Nat} {x y : Fin m} (h : ttB (ltV vs) (fun z : Fin m => z.val) x y = true) : leV vs x.val y.val = true := by
  simp only [ttB, Bool.or_eq_true, Bool.and_eq_true, Bool.not_eq_true', decide_eq_true_eq] at h
  rw [leV_iff]
  rcases h with h | ⟨h1, h2⟩
  · exact .inl (ltV_iff.1 h)
  · have h3 : ¬ ltV vs y x = true := by simp [h1]
    rw [ltV_iff] at h3
    omega
/-- what a stable sort leaves -/
theorem stable_is {vs : List Int} {m : Nat} (hm : vs.length = m + 1) {d0 d : Array (Fin (m + 1))} (hs0 : d0.size = m + 1) (h0 : ∀ k, k < m + 1 → (d0[k]!).val = k) (M : Mv d0 d 0 (m + 1)) (S : Srt (ltV vs) (fun z : Fin (m + 1) => z.val) d 0 (m + 1)) :
    d.toList.map (fun z => z.val) = odN vs := by
  have hsz : d.size = m + 1 := M.1.trans hs0
  obtain ⟨-, f, g, ho, hi, hr, he⟩ := M
  have hv : ∀ k, k < m + 1 → (d[k]!).val = f k := fun k hk => by
    rw [he k (by omega), h0 _ (hr k (Nat.zero_le _) hk).2.1]
  have hget : ∀ k (h : k < (d.toList.map (fun z => z.val)).length), (d.toList.map (fun z => z.val))[k] = f k := fun k h => by
    have hk : k < d.size := by simpa using h
    rw [List.getElem_map, ← hv k (by omega)]
    simp [getElem!_pos d k hk]
  have hlen : (d.toList.map (fun z => z.val)).length = m + 1 := by simp [hsz]
  refine odN_unique ?_ ?_
  · rw [hm]
    refine (List.perm_ext_iff_of_nodup ?_ List.nodup_range).2 fun k => ?_
    · rw [List.nodup_iff_pairwise_ne, List.pairwise_iff_getElem]
      intro i j h1 h2 hij e
      rw [hget, hget] at e
      have := congrArg g e
      rw [(hi i).2, (hi j).2] at this
      omega
    · rw [List.mem_range]
      constructor
      · intro h
        obtain ⟨i, h1, e⟩ := List.getElem_of_mem h
        rw [hget] at e
        rw [← e]
        exact (hr i (Nat.zero_le _) (by omega)).2.1
      · intro h
        have h2 := (hr k (Nat.zero_le _) h)
        have h3 := hget (g k) (by rw [hlen]; exact h2.2.2.2)
        rw [(hi k).1] at h3
        rw [← h3]
        exact List.getElem_mem _
  · rw [List.pairwise_iff_getElem]
    intro i j h1 h2 hij
    rw [hget, hget, ← hv i (by omega), ← hv j (by omega)]
    exact ttV_le (S i j (Nat.zero_le _) hij (by omega))

open Go.RowKit Go.Lib Go.Shelf Go.Sort
set_option linter.unusedVariables false
set_option linter.unusedSimpArgs false
attribute [local go_sem ↓] Go.wp_at_zero Go.wp_at_succ

theorem below_growW (B : Nat) (w : World) (hB : B ≤ w.heap.size) (os : Array Obj) : RowKit.Below B w (grow w os) :=
  ⟨rfl, rfl, rfl, by simp, fun k hk => heap_grow_old _ _ (by omega)⟩
theorem below_sortWorld {α : Type} [Inhabited α] (enc : α → Value) (B : Nat) (w : World) (g q : Nat) (d : Array α) (os : Array Obj) (hB : B ≤ w.heap.size) (hg : B ≤ g) : RowKit.Below B w (sortWorld enc w g 0 q d os) := by
  have h1 : RowKit.Below B w (putRow enc (Sort.ahead w q) g 0 d) := below_putRow (RowKit.Below.refl _ _) hg
  unfold sortWorld
  exact h1.trans (below_growW _ _ (by rw [size_putRow]; exact hB) os)

/-- the numbers of values, from the greatest to the least one -/
def odZ (zs : List Int) : List Int := (odN zs).map fun k : Nat => (k : Int)
theorem odZ_length (zs : List Int) : (odZ zs).length = zs.length := by simp [odZ, odN_length]
theorem odZ_mem (zs : List Int) : ∀ o ∈ odZ zs, 0 ≤ o ∧ o < zs.length := by
  intro o ho
  obtain ⟨k, hk, rfl⟩ := List.mem_map.1 ho
  have := odN_lt hk
  omega
def encF {n : Nat} (z : Fin n) : Value := .int .i64 (z.val : Int)
theorem upL_fin (n : Nat) : ints (upL n) = (List.finRange n).map encF := by
  apply List.ext_getElem
  · simp [ints, upL]
  · intro k h1 h2
    simp [ints, upL, encF]
theorem map_encF {m : Nat} (zs : List Int) (l : List (Fin m)) (h : l.map (fun z => z.val) = odN zs) : l.map encF = ints (odZ zs) := by
  unfold odZ ints
  rw [← h, List.map_map, List.map_map]
  rfl

set_option maxHeartbeats 400000 in
theorem sortNums (F : Nat) (cb : Array Value) (eg : ∀ args w, (callFunc F args).run Try.prog w = .ok (.enter F args) w) (zs : List Int) (m : Nat) (hm : zs.length = m + 1) (hle : m < 100000) (W : World) (base go cap : Nat)
    (hown : W.ownsRow base 3 1 (.slice (some ⟨go, 0, none⟩) (m + 1) cap) (m + 1) (ints (upL (m + 1))))
    (hcmp : ∀ x y : Fin (m + 1), ∀ W' : World, RowKit.Below go W W' → Calls Try.prog F (#[.int .i64 (x.val : Int), .int .i64 (y.val : Int)] ++ cb) W' fun e w' => e = .returned (.int .i64 (cfV zs x y)) ∧ ∃ q, w' = W'.drewN q) :
    Calls Try.prog 108 #[.slice (some ⟨go, 0, none⟩) ((m + 1 : Nat) : Int).toNat cap, .func (.func F) #[] cb] W fun e w' => e = .returned (.tuple #[]) ∧ w'.ownsRow base 3 1 (.slice (some ⟨go, 0, none⟩) (m + 1) cap) (m + 1) (ints (odZ zs)) ∧ RowKit.Below go W w' := by
  rw [Int.toNat_natCast]
  rw [upL_fin] at hown
  obtain ⟨g', cap', e1, hb, hgo, _, _, _, hH⟩ := holds_of_ownsRow (enc := encF) hown (by simp)
  obtain ⟨rfl, rfl⟩ : go = g' ∧ cap = cap' := by simpa using e1
  obtain ⟨d0, hd0⟩ : ∃ d0 : Array (Fin (m + 1)), (List.finRange (m + 1)).toArray = d0 := ⟨_, rfl⟩
  rw [hd0] at hH
  have hsz : d0.size = m + 1 := by rw [← hd0]; simp
  have hix : ∀ k, k < m + 1 → (d0[k]!).val = k := fun k hk => by
    rw [getElem!_pos d0 k (by omega)]
    subst hd0
    simp
  have R : Row1 encF W go 0 d0 := ⟨fun x => rfl, hH, hgo⟩
  have hC : CmpLays1 Try.prog F cb encF (cfV zs (m := m + 1)) go 0 d0.size W := fun q os dk hs x y => by
    refine (hcmp x y _ (below_sortWorld encF go W go q dk os (Nat.le_of_lt hgo) (Nat.le_refl _))).mono ?_
    rintro e w' ⟨rfl, p, rfl⟩
    exact ⟨rfl, p, #[], by rw [grow_empty]⟩
  have h := sortStable_s encF (cfV zs (m := m + 1)) F cb go 0 cap d0 W eg hC (ltV_swo zs (m + 1)) (fun z => z.val) R (by omega) (fun k hk => hix k (by omega))
  rw [hsz] at h
  refine h.mono ?_
  rintro e w' ⟨rfl, d', ⟨q, os, rfl⟩, M, S⟩
  have hl := stable_is hm hsz hix M S
  have own2 := ownsRow_putRow (enc := encF) (q := q) (k := m + 1) (ys := d'.toList) hown (by rw [Array.length_toList, M.1, hsz]) (Nat.le_refl _)
  rw [List.take_of_length_le (by rw [Array.length_toList, M.1, hsz]; exact Nat.le_refl _), map_encF zs _ hl] at own2
  refine ⟨rfl, ?_, below_sortWorld encF go W go q d' os (Nat.le_of_lt hgo) (Nat.le_refl _)⟩
  unfold sortWorld
  exact own_below own2 (below_growW _ _ (Nat.le_refl _) os)

set_option maxHeartbeats 400000 in
theorem gf1_drew (b gv offv n c : Nat) (i j : Nat) (vi vj : Int) (hi : i < n) (hj : j < n) (hn : n ≤ 1000) (h1 : -1000000000000000000 ≤ vi ∧ vi ≤ 1000000000000000000) (h2 : -1000000000000000000 ≤ vj ∧ vj ≤ 1000000000000000000) (w : World)
    (hb : w.cell? ⟨b, 0, none⟩ = some (.slice (some ⟨gv, offv, none⟩) n c)) (ci : w.cell? ⟨gv, offv + i, none⟩ = some (.int .i64 vi)) (cj : w.cell? ⟨gv, offv + j, none⟩ = some (.int .i64 vj)) :
    Calls Try.prog 109 #[.int .i64 i, .int .i64 j, .pointer (some ⟨b, 0, none⟩)] w fun e w' => e = .returned (.int .i64 (vj - vi)) ∧ ∃ q, w' = w.drewN q := by
  obtain ⟨h1, h1'⟩ := h1
  obtain ⟨h2, h2'⟩ := h2
  have hi0 : (0 : Int) ≤ (i : Int) := by omega
  have hi1 : (i : Int) < (n : Int) := by omega
  have hj0 : (0 : Int) ≤ (j : Int) := by omega
  have hj1 : (j : Int) < (n : Int) := by omega
  have hwx : IntKind.i64.wrap (vj - vi) = vj - vi := IntWalk.i64_in _ (by omega)
  go_enter Try.func109, Try.ntmps109
  go_wp2_with fail
  go_quiet (fail)
  go_wp2_with fail
  go_ret
  exact ⟨rfl, _, rfl⟩

set_option maxRecDepth 20000 in
set_option maxHeartbeats 1000000 in
theorem greatestFirst_any (g off c : Nat) (zs : List Int) (hl : 0 < zs.length) (hl2 : zs.length ≤ 1000) (hz : ∀ z ∈ zs, -1000000000000000000 ≤ z ∧ z ≤ 1000000000000000000) (w : World) (hg : g < w.heap.size) (hr : IntsAt w g off zs) :
    Calls Try.prog 68 #[.slice (some ⟨g, off, none⟩) zs.length c] w (GfPost w zs.length (odZ zs)) := by
  obtain ⟨i0, hi0, hz0, hz1, hz2⟩ := info_parts infoInt
  have HE := enters_gf1
  have HR := Lib.hid hr
  have HZ : Hid (∀ j, j < zs.length → -1000000000000000000 ≤ zs.getD j 0 ∧ zs.getD j 0 ≤ 1000000000000000000 ∧ zs[j]? = some (zs.getD j 0)) := Lib.hid fun j hj => by
    have e : zs[j]? = some (zs.getD j 0) := by rw [List.getD_eq_getElem?_getD, List.getElem?_eq_getElem hj]; rfl
    have := hz _ (List.mem_of_getElem? e)
    exact ⟨this.1, this.2, e⟩
  clear hr hz
  obtain ⟨n, hn⟩ : ∃ n, zs.length = n := ⟨_, rfl⟩
  rw [hn] at HZ hl hl2 ⊢
  have Hn := Lib.hid hn
  clear hn
  go_enter Try.func68, Try.ntmps68
  go_wp2_with fail
  go_loopw [3, 7] (fun s i wr => ∃ k : Nat, k ≤ n ∧ i = .int .i64 k ∧ wr.ownsRow (w.heap.size + 1) 3 1 s k (ints (upL k)) ∧ wr.cell? ⟨w.heap.size, 0, none⟩ = some (.slice (some ⟨g, off, none⟩) n c) ∧ w.heap.size < wr.heap.size ∧ RowKit.Below w.heap.size w wr) (fun _ i _ => n - (RowKit.intOf i).toNat)
  case atStart => exact ⟨0, Nat.zero_le _, rfl, World.ownsRow_nil _ _ _ _, by simp [go_sem], by simp, (RowKit.Below.refl _ _).alloc (Nat.le_refl _) _⟩
  case round =>
    obtain ⟨k, hk, rfl, hown, hc, hs, hbr⟩ := hrel
    by_cases hlt : (k : Int) < (n : Int)
    · obtain ⟨m, B, cc, rfl⟩ : ∃ (m : Nat) (B : Option Addr) (cc : Nat), u3 = Value.slice B m cc := by
        rcases hown.2 with ⟨rfl, _⟩ | ⟨g, cap, cur, rfl, _⟩
        · exact ⟨_, _, _, rfl⟩
        · exact ⟨_, _, _, rfl⟩
      have HOWN := Lib.hid hown
      have HNX := Lib.hid (upL_succ k)
      clear hown
      generalize upL k = L at *
      go_wp2_with (at_builtin; refine wpList_append_own_at _ rfl (.tmp 10) (.tmp 12) 23 rfl (w.heap.size + 1) 3 i0 (.int .i64 0) 1 8 Try.underlying23 hi0 hz0 hz1 hz2 rfl (by decide) (.slice B m cc) k (ints L) rfl (HOWN.out.alloc _) ⟨wr.heap.size, 0, none⟩ 1 1 (ints [(k : Int)]) rfl rfl ?_ ?_ ?_ ?_ ?_ ?_)
      case refine_1 =>
        intro i u hi
        rcases i with _ | i
        · simp [ints] at hi; subst hi; exact (cell_at _ _ _ _ _ (by simp))
        · simp [ints] at hi
      case refine_2 => simp [Value.oneCell', ints]
      case refine_3 => unfold maxLen; omega
      case refine_4 => omega
      case refine_5 => simp; omega
      case refine_6 =>
        intro v' w1 hown' hgrow _ hat
        have hrow : ∀ r, (Value.slice B m cc).ownBlock = some r → w.heap.size + 1 ≤ r := fun r hr => (HOWN.out.lt r hr).1
        have hb1 := (hbr.alloc hbr.size (Obj.cells #[Value.int IntKind.i64 (k : Int)] 3)).grown hgrow (by simp; omega) (fun r hr => by have := hrow r hr; omega)
        have hc1 := grown_cell' (v := some (Value.slice (some ⟨g, off, none⟩) n c)) hgrow (b := w.heap.size) (o := 0) (by simp; omega) (fun r hr => by have := hrow r hr; omega) (by rw [cell_old _ _ _ _ hs]; exact hc)
        have hs1 : w.heap.size < w1.heap.size := Nat.lt_of_lt_of_le (by simp; omega) hgrow.size
        rw [← ints_append] at hown'
        have HOWN1 := Lib.hid hown'
        clear hown' hgrow hrow hat hc
        go_wp2_with fail
        go_roundw
        case rel =>
          refine ⟨k + 1, by omega, by go_num, ?_, hc1, hs1, hb1⟩
          rw [HNX.out]
          exact HOWN1.out
        case measure => simp [RowKit.intOf]; omega
    · obtain rfl : k = n := by omega
      obtain ⟨m, rfl⟩ : ∃ m, k = m + 1 := ⟨k - 1, by omega⟩
      obtain ⟨go, cap, hv, hgo1, hgo2⟩ : ∃ go cap, u3 = Value.slice (some ⟨go, 0, none⟩) (m + 1) cap ∧ w.heap.size + 1 ≤ go ∧ go < wr.heap.size := by
        rcases hown.2 with ⟨_, h⟩ | ⟨go, cap, cur, rfl, hb, hgg, _⟩
        · omega
        · exact ⟨go, cap, rfl, hb, (Array.getElem?_eq_some_iff.1 hgg).1⟩
      subst hv
      have hS := sortNums 109 #[.pointer (some ⟨w.heap.size, 0, none⟩)] HE zs m Hn.out (by omega) wr (w.heap.size + 1) go cap hown (fun x y W' hW => by
        obtain ⟨a1, a2, a3⟩ := HZ.out x.val x.isLt
        obtain ⟨b1, b2, b3⟩ := HZ.out y.val y.isLt
        exact gf1_drew w.heap.size g off (m + 1) c x.val y.val _ _ x.isLt y.isLt hl2 ⟨a1, a2⟩ ⟨b1, b2⟩ W' (cell_next hW (by omega) hc) (cell_next hW (by omega) (cell_next hbr hg (HR.out _ _ a3))) (cell_next hW (by omega) (cell_next hbr hg (HR.out _ _ b3))))
      rw [Int.toNat_natCast] at hS
      have HSO := Lib.hid hS
      clear hS hown
      go_wp2_with fail
      refine HSO.out.mono ?_
      rintro e w2 ⟨rfl, own2, hb2⟩
      have HF := Lib.hid own2
      have hbf := hbr.trans (hb2.mono (by omega))
      clear own2 hb2 hc HSO
      go_wp2_with fail
      go_ret
      exact ⟨_, rfl, own_base HF.out (Nat.le_succ _), hbf⟩
end Go.Proofs.Ytclnfncdphfgjaa
