/- Contracts: PS, Z1, Z2, joined. -/
import Derived.Sort.LotA
import Derived.Sort.WalkA
import Derived.Shelf.SlSortCmp.Insertion1
import Derived.Test.YtclnfncdphfgjaaChecked
import Derived.WalkKit
import Derived.Lib.Hide
namespace Go.Proofs.Ytclnfncdphfgjaa
open Go.Sort
set_option linter.unusedVariables false
set_option linter.unusedSimpArgs false

/-- x goes before y: it is less, or neither is less and its number is smaller -/
def ttB {α : Type} (lt : α → α → Bool) (ix : α → Nat) (x y : α) : Bool := lt x y || (!lt y x && decide (ix x < ix y))
theorem ttB_swo {α : Type} {lt : α → α → Bool} (h : SWO lt) (ix : α → Nat) : SWO (ttB lt ix) where
  irrefl x := by simp [ttB, h.irrefl]
  trans x y z h1 h2 := by
    simp only [ttB, Bool.or_eq_true, Bool.and_eq_true, Bool.not_eq_true', decide_eq_true_eq] at *
    rcases h1 with h1 | ⟨h1, i1⟩ <;> rcases h2 with h2 | ⟨h2, i2⟩
    · exact .inl (h.trans _ _ _ h1 h2)
    · left
      cases hxz : lt x z with
      | true => rfl
      | false => exact absurd (h.ntrans _ _ _ hxz h2) (by simp [h1])
    · left
      cases hxz : lt x z with
      | true => rfl
      | false => exact absurd (h.ntrans _ _ _ h1 hxz) (by simp [h2])
    · exact .inr ⟨h.ntrans _ _ _ h2 h1, by omega⟩
  ntrans x y z h1 h2 := by
    simp only [ttB, Bool.or_eq_false_iff, Bool.and_eq_false_iff, Bool.not_eq_false', decide_eq_false_iff_not] at *
    obtain ⟨a1, b1⟩ := h1
    obtain ⟨a2, b2⟩ := h2
    refine ⟨h.ntrans _ _ _ a1 a2, ?_⟩
    rcases b1 with b1 | b1
    · left
      cases hzx : lt z x with
      | true => rfl
      | false => exact absurd (h.ntrans _ _ _ a2 hzx) (by simp [b1])
    · rcases b2 with b2 | b2
      · left
        cases hzx : lt z x with
        | true => rfl
        | false => exact absurd (h.ntrans _ _ _ hzx a1) (by simp [b2])
      · exact .inr (by omega)
theorem ttB_right {α : Type} {lt : α → α → Bool} {ix : α → Nat} {x y : α} (h : ix y < ix x) : ttB lt ix x y = lt x y := by
  have : decide (ix x < ix y) = false := by simp; omega
  simp [ttB, this]
theorem ttB_tot {α : Type} {lt : α → α → Bool} {ix : α → Nat} {x y : α} (h : ttB lt ix x y = false) (hne : ix x ≠ ix y) (hs : SWO lt) : ttB lt ix y x = true := by
  simp only [ttB, Bool.or_eq_false_iff, Bool.and_eq_false_iff, Bool.not_eq_false', decide_eq_false_iff_not, Bool.or_eq_true, Bool.and_eq_true, Bool.not_eq_true', decide_eq_true_eq] at *
  obtain ⟨a, b⟩ := h
  rcases b with b | b
  · exact .inl b
  · exact .inr ⟨a, by omega⟩

/-- the places a to b, in their order -/
def Srt {α : Type} [Inhabited α] (lt : α → α → Bool) (ix : α → Nat) (d : Array α) (a b : Nat) : Prop := ∀ i j, a ≤ i → i < j → j < b → ttB lt ix d[i]! d[j]! = true
/-- all numbers of the places a to m are below those of the places m to b -/
def Lft {α : Type} [Inhabited α] (ix : α → Nat) (d : Array α) (a m b : Nat) : Prop := ∀ i j, a ≤ i → i < m → m ≤ j → j < b → ix d[i]! < ix d[j]!
/-- d' has the elements of d at the places a to b, each as often, and is as d elsewhere: where each place comes from -/
def Mv {α : Type} [Inhabited α] (d d' : Array α) (a b : Nat) : Prop := d'.size = d.size ∧ ∃ f g : Nat → Nat, (∀ k, k < a ∨ b ≤ k → f k = k ∧ g k = k) ∧ (∀ k, f (g k) = k ∧ g (f k) = k) ∧ (∀ k, a ≤ k → k < b → a ≤ f k ∧ f k < b ∧ a ≤ g k ∧ g k < b) ∧ ∀ k, k < d.size → d'[k]! = d[f k]!
theorem Mv.refl {α : Type} [Inhabited α] (d : Array α) (a b : Nat) : Mv d d a b := ⟨rfl, fun k => k, fun k => k, fun _ _ => ⟨rfl, rfl⟩, fun _ => ⟨rfl, rfl⟩, fun k h1 h2 => ⟨h1, h2, h1, h2⟩, fun _ _ => rfl⟩
theorem Mv.trans {α : Type} [Inhabited α] {d d' d'' : Array α} {a b : Nat} (h : Mv d d' a b) (h' : Mv d' d'' a b) (hb : b ≤ d.size) : Mv d d'' a b := by
  obtain ⟨s, f, g, o, i, r, e⟩ := h
  obtain ⟨s', f', g', o', i', r', e'⟩ := h'
  refine ⟨s'.trans s, fun k => f (f' k), fun k => g' (g k), fun k hk => ?_, fun k => ?_, fun k h1 h2 => ?_, fun k hk => ?_⟩
  · show f (f' k) = k ∧ g' (g k) = k
    rw [(o' k hk).1, (o k hk).2]
    exact ⟨(o k hk).1, (o' k hk).2⟩
  · show f (f' (g' (g k))) = k ∧ g' (g (f (f' k))) = k
    rw [(i' (g k)).1, (i (f' k)).2]
    exact ⟨(i k).1, (i' k).2⟩
  · have q := r' k h1 h2
    have p := r (f' k) q.1 q.2.1
    have p2 := r k h1 h2
    have q2 := r' (g k) p2.2.2.1 p2.2.2.2
    exact ⟨p.1, p.2.1, q2.2.2.1, q2.2.2.2⟩
  · show d''[k]! = d[f (f' k)]!
    rw [e' k (by omega)]
    have : f' k < d.size := by
      by_cases hk2 : a ≤ k ∧ k < b
      · have := r' k hk2.1 hk2.2; omega
      · rw [(o' k (by omega)).1]; exact hk
    exact e _ this
theorem Mv.mono {α : Type} [Inhabited α] {d d' : Array α} {a b a' b' : Nat} (h : Mv d d' a b) (ha : a' ≤ a) (hb : b ≤ b') : Mv d d' a' b' := by
  obtain ⟨s, f, g, o, i, r, e⟩ := h
  refine ⟨s, f, g, fun k hk => o k (by omega), i, fun k h1 h2 => ?_, e⟩
  by_cases hk : a ≤ k ∧ k < b
  · have := r k hk.1 hk.2; omega
  · have := o k (by omega); omega
theorem Mv.of_swp {α : Type} [Inhabited α] (d : Array α) (a b i j : Nat) (hi : a ≤ i ∧ i < b) (hj : a ≤ j ∧ j < b) (hb : b ≤ d.size) : Mv d (swp d i j) a b := by
  refine ⟨swp_size d i j, fun k => if k = j then i else if k = i then j else k, fun k => if k = j then i else if k = i then j else k, fun k hk => ?_, fun k => ?_, fun k h1 h2 => ?_, fun k hk => ?_⟩
  · constructor <;> (dsimp only; repeat' split) <;> omega
  · constructor <;> (dsimp only; repeat' split) <;> omega
  · dsimp only
    repeat' split
    all_goals omega
  · dsimp only
    rw [swp_get d (by omega) (by omega) k]
    repeat' split
    all_goals rfl
/-- what holds of each element at the places holds of each one behind -/
theorem Mv.all {α : Type} [Inhabited α] {d d' : Array α} {a b : Nat} (h : Mv d d' a b) (hb : b ≤ d.size) (p : α → Prop) (hp : ∀ k, a ≤ k → k < b → p d[k]!) : ∀ k, a ≤ k → k < b → p d'[k]! := by
  obtain ⟨s, f, g, o, i, r, e⟩ := h
  intro k h1 h2
  have := r k h1 h2
  rw [e k (by omega)]
  exact hp _ this.1 this.2.1
theorem Mv.out {α : Type} [Inhabited α] {d d' : Array α} {a b : Nat} (h : Mv d d' a b) (k : Nat) (hk : k < a ∨ b ≤ k) : d'[k]! = d[k]! := by
  obtain ⟨s, f, g, o, i, r, e⟩ := h
  by_cases hs : k < d.size
  · rw [e k hs, (o k hk).1]
  · rw [getElem!_neg _ k (by omega), getElem!_neg d k hs]

/-- each number stands at one place alone -/
def Apt {α : Type} [Inhabited α] (ix : α → Nat) (d : Array α) : Prop := ∀ i j, i < d.size → j < d.size → ix d[i]! = ix d[j]! → i = j
theorem Apt.mv {α : Type} [Inhabited α] {ix : α → Nat} {d d' : Array α} {a b : Nat} (h : Apt ix d) (hm : Mv d d' a b) (hb : b ≤ d.size) : Apt ix d' := by
  obtain ⟨s, f, g, o, i, r, e⟩ := hm
  have hf : ∀ k, k < d.size → f k < d.size := fun k hk => by
    by_cases hk2 : a ≤ k ∧ k < b
    · have := r k hk2.1 hk2.2; omega
    · rw [(o k (by omega)).1]; exact hk
  intro x y hx hy hxy
  rw [e x (by omega), e y (by omega)] at hxy
  have := h _ _ (hf x (by omega)) (hf y (by omega)) hxy
  rw [← (i x).2, ← (i y).2, this]

/-! ### insertion -/
theorem insInner_eq {α : Type} [Inhabited α] (lt : α → α → Bool) (ix : α → Nat) (a : Nat) : ∀ (j : Nat) (d : Array α), j < d.size → (∀ k, a ≤ k → k < j → ix d[k]! < ix d[j]!) → insInner lt a j d = insInner (ttB lt ix) a j d
  | 0, d, _, _ => rfl
  | j + 1, d, hj, h => by
    unfold insInner
    by_cases haj : j + 1 > a
    · rw [ttB_right (lt := lt) (h j (by omega) (by omega))]
      split
      · refine insInner_eq lt ix a j (swp d (j + 1) j) (by rw [swp_size]; omega) fun k h1 h2 => ?_
        rw [swp_get d (by omega) (by omega), swp_get d (by omega) (by omega), if_neg (by omega), if_neg (by omega), if_pos rfl]
        exact h k h1 (by omega)
      · rfl
    · simp [haj]
theorem insInner_mv {α : Type} [Inhabited α] (lt : α → α → Bool) (a b : Nat) : ∀ (j : Nat) (d : Array α), a ≤ j → j < b → b ≤ d.size → Mv d (insInner lt a j d) a b
  | 0, d, _, _, _ => Mv.refl d a b
  | j + 1, d, haj, hjb, hb => by
    unfold insInner
    split
    · rename_i hc
      simp only [Bool.and_eq_true, decide_eq_true_eq] at hc
      exact (Mv.of_swp d a b (j + 1) j ⟨haj, hjb⟩ ⟨by omega, by omega⟩ hb).trans (insInner_mv lt a b j _ (by omega) (by omega) (by rw [swp_size]; exact hb)) hb
    · exact Mv.refl d a b
theorem insInner_size {α : Type} [Inhabited α] (lt : α → α → Bool) (a b j : Nat) (d : Array α) (h1 : a ≤ j) (h2 : j < b) (hb : b ≤ d.size) : (insInner lt a j d).size = d.size := (insInner_mv lt a b j d h1 h2 hb).1
theorem insOuter_eq {α : Type} [Inhabited α] (lt : α → α → Bool) (ix : α → Nat) (a b : Nat) : ∀ (n i : Nat) (d : Array α), b - i = n → a < i → b ≤ d.size → (∀ k l, a ≤ k → k < l → i ≤ l → l < b → ix d[k]! < ix d[l]!) →
    insOuter lt a b i d = insOuter (ttB lt ix) a b i d ∧ Mv d (insOuter (ttB lt ix) a b i d) a b
  | 0, i, d, hn, hai, hb, h => by
    rw [insOuter_stop _ _ _ _ _ (by omega), insOuter_stop _ _ _ _ _ (by omega)]
    exact ⟨rfl, Mv.refl d a b⟩
  | n + 1, i, d, hn, hai, hb, h => by
    have hm := insInner_mv (ttB lt ix) a (i + 1) i d (by omega) (by omega) (by omega)
    rw [insOuter_go _ _ _ _ _ (by omega), insOuter_go (ttB lt ix) _ _ _ _ (by omega), insInner_eq lt ix a i d (by omega) fun k h1 h2 => h k i h1 h2 (Nat.le_refl _) (by omega)]
    have ih := insOuter_eq lt ix a b n (i + 1) (insInner (ttB lt ix) a i d) (by omega) (by omega) (by rw [hm.1]; exact hb) fun k l h1 h2 h3 h4 => by
      rw [hm.out l (by omega)]
      by_cases hk : k < i + 1
      · exact hm.all (by omega) (fun x => ix x < ix d[l]!) (fun q q1 q2 => h q l q1 (by omega) (by omega) h4) k h1 hk
      · rw [hm.out k (by omega)]; exact h k l h1 h2 (by omega) h4
    exact ⟨ih.1, (hm.mono (Nat.le_refl _) (by omega)).trans ih.2 hb⟩

/-- the insertion sort of a block whose numbers rise -/
theorem insertion_stable {α : Type} [Inhabited α] {lt : α → α → Bool} (hs : SWO lt) (ix : α → Nat) (d : Array α) (a b : Nat) (hab : a ≤ b) (hb : b ≤ d.size) (hu : ∀ k l, a ≤ k → k < l → l < b → ix d[k]! < ix d[l]!) (hA : Apt ix d) :
    Mv d (insertionSort lt d a b) a b ∧ Srt lt ix (insertionSort lt d a b) a b := by
  have h := insOuter_eq lt ix a b (b - (a + 1)) (a + 1) d rfl (by omega) hb fun k l h1 h2 h3 h4 => hu k l h1 h2 h4
  have e : insertionSort lt d a b = insertionSort (ttB lt ix) d a b := h.1
  rw [e]
  have hm : Mv d (insertionSort (ttB lt ix) d a b) a b := h.2
  refine ⟨hm, fun i j h1 h2 h3 => ?_⟩
  have hso := (insertionSort_holds (lt := ttB lt ix) (ttB_swo hs ix) d a b hab hb).2 i j h1 h2 h3
  exact ttB_tot hso (fun e => by have := (hA.mv hm hb) j i (by rw [hm.1]; omega) (by rw [hm.1]; omega) e; omega) hs

/-! ### moving a block ahead of its neighbour -/
/-- where the place k comes from when the places lo to m and m to hi change places -/
def rotI (lo m hi k : Nat) : Nat := if k < lo then k else if k < lo + (hi - m) then k + (m - lo) else if k < hi then k - (hi - m) else k
def Rot {α : Type} [Inhabited α] (d d' : Array α) (lo m hi : Nat) : Prop := d'.size = d.size ∧ ∀ k, k < d.size → d'[k]! = d[rotI lo m hi k]!
theorem Rot.mv {α : Type} [Inhabited α] {d d' : Array α} {lo m hi : Nat} (h : Rot d d' lo m hi) (h1 : lo ≤ m) (h2 : m ≤ hi) (hb : hi ≤ d.size) : Mv d d' lo hi := by
  refine ⟨h.1, rotI lo m hi, rotI lo (lo + (hi - m)) hi, fun k hk => ?_, fun k => ?_, fun k q1 q2 => ?_, h.2⟩
  · unfold rotI; constructor <;> (repeat' split) <;> omega
  · unfold rotI; constructor <;> (repeat' split) <;> omega
  · unfold rotI
    repeat' split
    all_goals omega
theorem Rot.none {α : Type} [Inhabited α] (d : Array α) (lo m hi : Nat) (h : m = lo ∨ m = hi) (h1 : lo ≤ m) (h2 : m ≤ hi) : Rot d d lo m hi := by
  refine ⟨rfl, fun k hk => ?_⟩
  congr 1
  unfold rotI
  repeat' split
  all_goals omega

/-- the places x to x + n and y to y + n are exchanged -/
def swI (x y n k : Nat) : Nat := if x ≤ k ∧ k < x + n then k - x + y else if y ≤ k ∧ k < y + n then k - y + x else k
def Swr {α : Type} [Inhabited α] (d d' : Array α) (x y n : Nat) : Prop := d'.size = d.size ∧ ∀ k, k < d.size → d'[k]! = d[swI x y n k]!
theorem Swr.zero {α : Type} [Inhabited α] (d : Array α) (x y : Nat) : Swr d d x y 0 := by
  refine ⟨rfl, fun k hk => ?_⟩
  congr 1
  unfold swI
  repeat' split
  all_goals omega
theorem Swr.step {α : Type} [Inhabited α] {d d' : Array α} {x y n : Nat} (h : Swr d d' x y n) (hxy : x + n < y) (hy : y + n < d.size) : Swr d (swp d' (x + n) (y + n)) x y (n + 1) := by
  refine ⟨(swp_size _ _ _).trans h.1, fun k hk => ?_⟩
  rw [swp_get d' (by rw [h.1]; omega) (by rw [h.1]; omega)]
  by_cases e1 : k = y + n
  · rw [if_pos e1, h.2 (x + n) (by omega)]
    congr 1
    unfold swI
    repeat' split
    all_goals omega
  · rw [if_neg e1]
    by_cases e2 : k = x + n
    · rw [if_pos e2, h.2 (y + n) (by omega)]
      congr 1
      unfold swI
      repeat' split
      all_goals omega
    · rw [if_neg e2, h.2 k hk]
      congr 1
      unfold swI
      repeat' split
      all_goals omega
/-- what is left to be moved -/
def RotLeft {α : Type} [Inhabited α] (d0 d : Array α) (lo m hi i j : Nat) : Prop := d.size = d0.size ∧ 0 < i ∧ 0 < j ∧ i ≤ m - lo ∧ j ≤ hi - m ∧ ∀ k, k < d0.size → d[rotI (m - i) m (m + j) k]! = d0[rotI lo m hi k]!
theorem RotLeft.start {α : Type} [Inhabited α] (d : Array α) (lo m hi : Nat) (h1 : lo < m) (h2 : m < hi) : RotLeft d d lo m hi (m - lo) (hi - m) := by
  refine ⟨rfl, by omega, by omega, Nat.le_refl _, Nat.le_refl _, fun k hk => ?_⟩
  rw [show m - (m - lo) = lo by omega, show m + (hi - m) = hi by omega]
theorem RotLeft.more {α : Type} [Inhabited α] {d0 d d' : Array α} {lo m hi i j : Nat} (h : RotLeft d0 d lo m hi i j) (hij : j < i) (h1 : lo ≤ m) (h2 : m ≤ hi) (hb : hi ≤ d0.size) (hs : Swr d d' (m - i) m j) : RotLeft d0 d' lo m hi (i - j) j := by
  obtain ⟨s, p, q, r, t, e⟩ := h
  refine ⟨hs.1.trans s, by omega, q, by omega, t, fun k hk => ?_⟩
  rw [← e k hk, hs.2 _ (by rw [s]; unfold rotI; (repeat' split) <;> omega)]
  congr 1
  unfold swI rotI
  repeat' split
  all_goals omega
theorem RotLeft.less {α : Type} [Inhabited α] {d0 d d' : Array α} {lo m hi i j : Nat} (h : RotLeft d0 d lo m hi i j) (hij : i < j) (h1 : lo ≤ m) (h2 : m ≤ hi) (hb : hi ≤ d0.size) (hs : Swr d d' (m - i) (m + j - i) i) : RotLeft d0 d' lo m hi i (j - i) := by
  obtain ⟨s, p, q, r, t, e⟩ := h
  refine ⟨hs.1.trans s, p, by omega, r, by omega, fun k hk => ?_⟩
  rw [← e k hk, hs.2 _ (by rw [s]; unfold rotI; (repeat' split) <;> omega)]
  congr 1
  unfold swI rotI
  repeat' split
  all_goals omega
theorem RotLeft.last {α : Type} [Inhabited α] {d0 d d' : Array α} {lo m hi i : Nat} (h : RotLeft d0 d lo m hi i i) (h1 : lo ≤ m) (h2 : m ≤ hi) (hb : hi ≤ d0.size) (hs : Swr d d' (m - i) m i) : Rot d0 d' lo m hi := by
  obtain ⟨s, p, q, r, t, e⟩ := h
  refine ⟨hs.1.trans s, fun k hk => ?_⟩
  rw [← e k hk, hs.2 k (by rw [s]; exact hk)]
  congr 1
  unfold swI rotI
  repeat' split
  all_goals omega

/-! ### merging -/
theorem Srt.mono {α : Type} [Inhabited α] {lt : α → α → Bool} {ix : α → Nat} {d : Array α} {a b a' b' : Nat} (h : Srt lt ix d a b) (h1 : a ≤ a') (h2 : b' ≤ b) : Srt lt ix d a' b' := fun i j p q r => h i j (by omega) q (by omega)
theorem Srt.one {α : Type} [Inhabited α] {lt : α → α → Bool} {ix : α → Nat} {d : Array α} {a b : Nat} (h : b ≤ a + 1) : Srt lt ix d a b := fun i j p q r => by omega
theorem Srt.same {α : Type} [Inhabited α] {lt : α → α → Bool} {ix : α → Nat} {d d' : Array α} {a b : Nat} (h : Srt lt ix d a b) (he : ∀ k, a ≤ k → k < b → d'[k]! = d[k]!) : Srt lt ix d' a b := fun i j p q r => by rw [he i p (by omega), he j (by omega) r]; exact h i j p q r
theorem Lft.same {α : Type} [Inhabited α] {ix : α → Nat} {d d' : Array α} {a m b : Nat} (h : Lft ix d a m b) (he : ∀ k, a ≤ k → k < b → d'[k]! = d[k]!) : Lft ix d' a m b := fun i j p q r s => by rw [he i p (by omega), he j (by omega) s]; exact h i j p q r s
theorem Srt.join {α : Type} [Inhabited α] {lt : α → α → Bool} {ix : α → Nat} {d : Array α} {a m b : Nat} (h1 : Srt lt ix d a m) (h2 : Srt lt ix d m b) (hc : ∀ i j, a ≤ i → i < m → m ≤ j → j < b → ttB lt ix d[i]! d[j]! = true) : Srt lt ix d a b := fun i j p q r => by
  by_cases hj : j < m
  · exact h1 i j p q hj
  · by_cases hi : i < m
    · exact hc i j p hi (by omega) r
    · exact h2 i j (by omega) q r
/-- what one comparison of a right with a left place tells -/
theorem test_true {α : Type} [Inhabited α] {lt : α → α → Bool} {ix : α → Nat} {d : Array α} {a m b c q : Nat} (hl : Lft ix d a m b) (h1 : a ≤ c) (h2 : c < m) (h3 : m ≤ q) (h4 : q < b) (h : lt d[q]! d[c]! = true) : ttB lt ix d[q]! d[c]! = true := by
  rw [ttB_right (hl c q h1 h2 h3 h4)]; exact h
theorem test_false {α : Type} [Inhabited α] {lt : α → α → Bool} (hS : SWO lt) {ix : α → Nat} {d : Array α} {a m b c q : Nat} (hl : Lft ix d a m b) (h1 : a ≤ c) (h2 : c < m) (h3 : m ≤ q) (h4 : q < b) (h : lt d[q]! d[c]! = false) : ttB lt ix d[c]! d[q]! = true := by
  have g := hl c q h1 h2 h3 h4
  exact ttB_tot (by rw [ttB_right g]; exact h) (by omega) hS

theorem Rot.a {α : Type} [Inhabited α] {d d' : Array α} {s m e : Nat} (R : Rot d d' s m e) (k : Nat) (h : k < s) (hk : k < d.size) : d'[k]! = d[k]! := by rw [R.2 k hk]; congr 1; unfold rotI; (repeat' split) <;> omega
theorem Rot.b {α : Type} [Inhabited α] {d d' : Array α} {s m e : Nat} (R : Rot d d' s m e) (k : Nat) (h : s ≤ k) (h2 : k < s + (e - m)) (hk : k < d.size) : d'[k]! = d[k + (m - s)]! := by rw [R.2 k hk]; congr 1; unfold rotI; (repeat' split) <;> omega
theorem Rot.c {α : Type} [Inhabited α] {d d' : Array α} {s m e : Nat} (R : Rot d d' s m e) (k : Nat) (h : s + (e - m) ≤ k) (h2 : k < e) (hk : k < d.size) : d'[k]! = d[k - (e - m)]! := by rw [R.2 k hk]; congr 1; unfold rotI; (repeat' split) <;> omega
theorem Rot.d {α : Type} [Inhabited α] {d d' : Array α} {s m e : Nat} (R : Rot d d' s m e) (k : Nat) (h : e ≤ k) (h2 : s ≤ m) (h3 : m ≤ e) (hk : k < d.size) : d'[k]! = d[k]! := by rw [R.2 k hk]; congr 1; unfold rotI; (repeat' split) <;> omega

structure Cut {α : Type} [Inhabited α] (lt : α → α → Bool) (ix : α → Nat) (d d' : Array α) (a s mid e b : Nat) : Prop where
  mv : Mv d d' a b
  s1 : Srt lt ix d' a s
  s2 : Srt lt ix d' s mid
  l1 : Lft ix d' a s mid
  s3 : Srt lt ix d' mid e
  s4 : Srt lt ix d' e b
  l2 : Lft ix d' mid e b
  cross : ∀ i j, a ≤ i → i < mid → mid ≤ j → j < b → ttB lt ix d'[i]! d'[j]! = true
theorem cut {α : Type} [Inhabited α] {lt : α → α → Bool} (hS : SWO lt) {ix : α → Nat} {d d' : Array α} {a s m mid e b : Nat} (hs : Srt lt ix d a m) (ht : Srt lt ix d m b) (hl : Lft ix d a m b)
    (h1 : a ≤ s) (h2 : s ≤ m) (h3 : m ≤ e) (h4 : e ≤ b) (h5 : b ≤ d.size) (hmid : mid = s + (e - m))
    (c1 : s < m → m < e → ttB lt ix d[e - 1]! d[s]! = true) (c2 : a < s → e < b → ttB lt ix d[s - 1]! d[e]! = true) (R : Rot d d' s m e) : Cut lt ix d d' a s mid e b := by
  have T := (ttB_swo hS ix).trans
  subst hmid
  have le_l : ∀ i j, a ≤ i → i ≤ j → j < m → i = j ∨ ttB lt ix d[i]! d[j]! = true := fun i j p q r => by
    by_cases h : i = j
    · exact .inl h
    · exact .inr (hs i j p (by omega) r)
  have le_r : ∀ i j, m ≤ i → i ≤ j → j < b → i = j ∨ ttB lt ix d[i]! d[j]! = true := fun i j p q r => by
    by_cases h : i = j
    · exact .inl h
    · exact .inr (ht i j p (by omega) r)
  refine ⟨(R.mv h2 h3 (by omega)).mono h1 h4, ?_, ?_, ?_, ?_, ?_, ?_, ?_⟩
  · exact (hs.mono (Nat.le_refl _) h2).same fun k p q => R.a k q (by omega)
  · intro i j p q r
    rw [R.b i p (by omega) (by omega), R.b j (by omega) r (by omega)]
    exact ht _ _ (by omega) (by omega) (by omega)
  · intro i j p q r t
    rw [R.a i q (by omega), R.b j r t (by omega)]
    exact hl _ _ p (by omega) (by omega) (by omega)
  · intro i j p q r
    rw [R.c i p (by omega) (by omega), R.c j (by omega) r (by omega)]
    exact hs _ _ (by omega) (by omega) (by omega)
  · exact (ht.mono h3 (Nat.le_refl _)).same fun k p q => R.d k p h2 h3 (by omega)
  · intro i j p q r t
    rw [R.c i p q (by omega), R.d j r h2 h3 (by omega)]
    exact hl _ _ (by omega) (by omega) (by omega) t
  · intro i j p q r t
    by_cases hi : i < s
    · rw [R.a i hi (by omega)]
      by_cases hj : j < e
      · rw [R.c j r hj (by omega)]
        exact hs _ _ p (by omega) (by omega)
      · rw [R.d j (by omega) h2 h3 (by omega)]
        have hc := c2 (by omega) (by omega)
        have x : ttB lt ix d[i]! d[e]! = true := by
          rcases le_l i (s - 1) p (by omega) (by omega) with g | g
          · rw [g]; exact hc
          · exact T _ _ _ g hc
        rcases le_r e j h3 (by omega) t with g | g
        · rw [← g]; exact x
        · exact T _ _ _ x g
    · rw [R.b i (by omega) q (by omega)]
      by_cases hj : j < e
      · rw [R.c j r hj (by omega)]
        have hc := c1 (by omega) (by omega)
        have x : ttB lt ix d[i + (m - s)]! d[s]! = true := by
          rcases le_r (i + (m - s)) (e - 1) (by omega) (by omega) (by omega) with g | g
          · rw [g]; exact hc
          · exact T _ _ _ g hc
        rcases le_l s (j - (e - m)) h1 (by omega) (by omega) with g | g
        · rw [← g]; exact x
        · exact T _ _ _ x g
      · rw [R.d j (by omega) h2 h3 (by omega)]
        exact ht _ _ (by omega) (by omega) t

/-- both halves of a cut, merged -/
theorem Cut.done {α : Type} [Inhabited α] {lt : α → α → Bool} {ix : α → Nat} {d d' d1 d2 : Array α} {a s mid e b : Nat} (C : Cut lt ix d d' a s mid e b) (h1 : a ≤ mid) (h2 : mid ≤ b) (hb : b ≤ d.size)
    (m1 : Mv d' d1 a mid) (t1 : Srt lt ix d1 a mid) (m2 : Mv d1 d2 mid b) (t2 : Srt lt ix d2 mid b) : Mv d d2 a b ∧ Srt lt ix d2 a b := by
  have z1 : d'.size = d.size := C.mv.1
  have z2 : d1.size = d.size := m1.1.trans z1
  refine ⟨(C.mv.trans (m1.mono (Nat.le_refl _) h2) hb).trans (m2.mono h1 (Nat.le_refl _)) hb, Srt.join (t1.same fun k p q => m2.out k (.inl q)) t2 ?_⟩
  intro i j p q r t
  rw [m2.out i (.inl q)]
  refine m2.all (by omega) (fun x => ttB lt ix d1[i]! x = true) (fun k k1 k2 => ?_) j r t
  rw [m1.out k (.inr k1)]
  exact m1.all (by omega) (fun x => ttB lt ix x d'[k]! = true) (fun l l1 l2 => C.cross l k l1 l2 k1 k2) i p q
/-- the element at a goes to its place among those behind it -/
theorem cut_first {α : Type} [Inhabited α] {lt : α → α → Bool} (hS : SWO lt) {ix : α → Nat} {d d' : Array α} {a e b : Nat} (ht : Srt lt ix d (a + 1) b) (hl : Lft ix d a (a + 1) b) (h3 : a + 1 ≤ e) (h4 : e ≤ b) (h5 : b ≤ d.size)
    (c1 : a + 1 < e → ttB lt ix d[e - 1]! d[a]! = true) (c2 : e < b → ttB lt ix d[a]! d[e]! = true) (R : Rot d d' a (a + 1) e) : Mv d d' a b ∧ Srt lt ix d' a b := by
  have C := cut hS (Srt.one (by omega)) ht hl (Nat.le_refl _) (by omega) h3 h4 h5 rfl (fun _ h => c1 h) (fun h _ => by omega) R
  refine ⟨C.mv, Srt.join C.s2 (Srt.join C.s3 C.s4 ?_) C.cross⟩
  intro i j p q r t
  have z : d'.size = d.size := C.mv.1
  rw [R.c i p q (by omega), R.d j r (by omega) h3 (by omega), show i - (e - (a + 1)) = a by omega]
  have hc := c2 (by omega)
  by_cases hj : j = e
  · subst hj; exact hc
  · exact (ttB_swo hS ix).trans _ _ _ hc (ht _ _ (by omega) (by omega) t)
/-- the element at m goes to its place among those ahead of it -/
theorem cut_last {α : Type} [Inhabited α] {lt : α → α → Bool} (hS : SWO lt) {ix : α → Nat} {d d' : Array α} {a s m : Nat} (hs : Srt lt ix d a m) (hl : Lft ix d a m (m + 1)) (h1 : a ≤ s) (h2 : s ≤ m) (h5 : m + 1 ≤ d.size)
    (c1 : s < m → ttB lt ix d[m]! d[s]! = true) (c2 : a < s → ttB lt ix d[s - 1]! d[m]! = true) (R : Rot d d' s m (m + 1)) : Mv d d' a (m + 1) ∧ Srt lt ix d' a (m + 1) := by
  have C := cut hS hs (Srt.one (by omega)) hl h1 h2 (Nat.le_succ m) (Nat.le_refl _) h5 rfl (fun h _ => c1 h) (fun _ h => by omega) R
  have z : d'.size = d.size := C.mv.1
  refine ⟨C.mv, Srt.join (Srt.join C.s1 C.s2 ?_) C.s3 C.cross⟩
  intro i j p q r t
  rw [R.a i q (by omega), R.b j r t (by omega), show j + (m - s) = m by omega]
  have hc := c2 (by omega)
  by_cases hi : i = s - 1
  · subst hi; exact hc
  · exact (ttB_swo hS ix).trans _ _ _ (hs _ _ p (by omega) (by omega)) hc

/-! ### moving one element by exchanges with its neighbours -/
/-- the element of the place a has come to the place k -/
theorem walk_up {α : Type} [Inhabited α] {d d' : Array α} {a k : Nat} (R : Rot d d' a (a + 1) (k + 1)) (h : a ≤ k) (hk : k + 1 < d.size) : Rot d (swp d' k (k + 1)) a (a + 1) (k + 2) := by
  refine ⟨(swp_size _ _ _).trans R.1, fun q hq => ?_⟩
  rw [swp_get d' (by rw [R.1]; omega) (by rw [R.1]; omega)]
  by_cases e1 : q = k + 1
  · rw [if_pos e1, R.2 k (by omega)]
    congr 1
    unfold rotI
    repeat' split
    all_goals omega
  · rw [if_neg e1]
    by_cases e2 : q = k
    · rw [if_pos e2, R.2 (k + 1) (by omega)]
      congr 1
      unfold rotI
      repeat' split
      all_goals omega
    · rw [if_neg e2, R.2 q hq]
      congr 1
      unfold rotI
      repeat' split
      all_goals omega
/-- the element of the place m has come to the place k -/
theorem walk_down {α : Type} [Inhabited α] {d d' : Array α} {m k : Nat} (R : Rot d d' (k + 1) m (m + 1)) (h : k + 1 ≤ m) (hk : m < d.size) : Rot d (swp d' (k + 1) k) k m (m + 1) := by
  refine ⟨(swp_size _ _ _).trans R.1, fun q hq => ?_⟩
  rw [swp_get d' (by rw [R.1]; omega) (by rw [R.1]; omega)]
  by_cases e1 : q = k
  · rw [if_pos e1, R.2 (k + 1) (by omega)]
    congr 1
    unfold rotI
    repeat' split
    all_goals omega
  · rw [if_neg e1]
    by_cases e2 : q = k + 1
    · rw [if_pos e2, R.2 k (by omega)]
      congr 1
      unfold rotI
      repeat' split
      all_goals omega
    · rw [if_neg e2, R.2 q hq]
      congr 1
      unfold rotI
      repeat' split
      all_goals omega

open Go.Shelf Go.RowKit Go.Lib Go.Sort
set_option linter.unusedVariables false
set_option linter.unusedSimpArgs false

theorem mixedP : Try.prog.follows .mixedOrders = true := by kernel_rfl

set_option maxHeartbeats 4000000 in
set_option maxRecDepth 1000000 in
theorem swapRange_s {α : Type} [Inhabited α] (enc : α → Value) (g : Nat) (cb : Array Value) (blk off cap x y n : Nat) (d0 d : Array α) (w0 w : World)
    (R : Row1 enc w0 blk off d0) (hs : d0.size = d.size) (S : SW enc w0 blk off d w) (hxy : x + n ≤ y) (hb : y + n ≤ d.size) (hsz : d.size < 4611686018427387904) :
    Calls Try.prog 168 #[.slice (some ⟨blk, off, none⟩) d.size cap, .int .i64 x, .int .i64 y, .int .i64 n, .func (.func g) #[] cb] w fun e w' => e = .returned (.tuple #[]) ∧ ∃ d', SW enc w0 blk off d' w' ∧ Swr d d' x y n := by
  have mixed := mixedP
  have hcl0 := R.hO.cells
  simp only [Value.cells] at hcl0
  have hst := R.hO.store Try.prog
  have S0 : Aside (SW enc w0 blk off d w) := S
  clear S
  go_enter Try.func168, Try.ntmps168
  go_wp2_with fail
  go_loopg [10] n (fun g1 vi wr => ∃ (i : Nat) (dk : Array α), vi = .int .i64 i ∧ i ≤ n ∧ n - i ≤ g1 ∧ dk.size = d.size ∧ Aside (SW enc w0 blk off dk wr) ∧ Aside (Swr d dk x y i))
  case atStart => exact ⟨0, d, rfl, by omega, by omega, rfl, S0, Swr.zero d x y⟩
  case round =>
    clear S0
    obtain ⟨i, dk, rfl, hin, hg1, hsk, S1, HS⟩ := hrel
    by_cases hlt : i < n
    · have hltz : (i : Int) < (n : Int) := by omega
      have hnx : Aside (Swr d (swp dk (x + i) (y + i)) x y (i + 1)) := HS.out.step (by omega) (by omega)
      clear HS
      go_wp2_with fail
      obtain ⟨iN01, hiN01⟩ : ∃ q9, q9 = x + i := ⟨_, rfl⟩
      obtain ⟨jN01, hjN01⟩ : ∃ q9, q9 = y + i := ⟨_, rfl⟩
      have ea01 : ((x : Int) + (i : Int)).toNat = iN01 := by omega
      have pa01 : (0 : Int) ≤ (x : Int) + (i : Int) := by omega
      have ba01 : (x : Int) + (i : Int) < (d.size : Int) := by omega
      have ra01 : IntKind.i64.wrap ((x : Int) + (i : Int)) = (x : Int) + (i : Int) := by rw [IntKind.wrap_i64]; omega
      have ec01 : ((y : Int) + (i : Int)).toNat = jN01 := by omega
      have pc01 : (0 : Int) ≤ (y : Int) + (i : Int) := by omega
      have bc01 : (y : Int) + (i : Int) < (d.size : Int) := by omega
      have rc01 : IntKind.i64.wrap ((y : Int) + (i : Int)) = (y : Int) + (i : Int) := by rw [IntKind.wrap_i64]; omega
      obtain ⟨x01, hx01⟩ : ∃ v9, v9 = dk[x + i]! := ⟨_, rfl⟩
      obtain ⟨y01, hy01⟩ : ∃ v9, v9 = dk[y + i]! := ⟨_, rfl⟩
      have S2 : Aside (SW enc w0 blk off (swp dk (x + i) (y + i)) ((wr.setCell ⟨blk, off + iN01, none⟩ (enc y01)).setCell ⟨blk, off + jN01, none⟩ (enc x01)).drew) := by rw [hiN01, hjN01, hx01, hy01]; exact S1.out.swapped R (x + i) (y + i) (by omega) (by omega)
      have c01a := S1.out.c1 R (by omega) (x + i) (by omega)
      have c01b := S1.out.c1 R (by omega) (y + i) (by omega)
      have f01a := S1.out.f1 R (by omega) (x + i) (by omega)
      have f01b := S1.out.f1 R (by omega) (y + i) (by omega)
      obtain ⟨u01, c01c⟩ := S1.out.c2 R (by omega) (x + i) (y + i) (by omega) (by omega) (enc y01)
      first | rw [← hjN01, ← hiN01] at c01c | rw [← hiN01, ← hjN01] at c01c
      rw [← hx01, ← hiN01] at c01a
      rw [← hy01, ← hjN01] at c01b
      rw [← hiN01] at f01a
      rw [← hjN01] at f01b
      clear S1 hx01 hy01 hiN01 hjN01
      go_wp2_with fail
      go_big_region_o
      clear c01a c01b c01c f01a f01b
      generalize ((wr.setCell ⟨blk, off + iN01, none⟩ (enc y01)).setCell ⟨blk, off + jN01, none⟩ (enc x01)).drew = w2 at S2 ⊢
      clear ea01 ec01

      go_wp2_with fail
      go_roundg (n - (i + 1))
      case measure => omega
      case rel => exact ⟨i + 1, _, by go_num, by omega, Nat.le_refl _, by rw [size_swp]; exact hsk, S2, hnx⟩
    · have hltz : ¬ (i : Int) < (n : Int) := by omega
      obtain rfl : i = n := by omega
      go_wp2_with fail
      go_end0
      exact ⟨rfl, _, S1.out, HS.out⟩

open Go.Shelf Go.RowKit Go.Lib Go.Sort
set_option linter.unusedVariables false
set_option linter.unusedSimpArgs false

set_option maxHeartbeats 2000000 in
set_option maxRecDepth 1000000 in
theorem rotate_s {α : Type} [Inhabited α] (enc : α → Value) (g : Nat) (cb : Array Value) (blk off cap lo m hi : Nat) (d0 d : Array α) (w0 w : World)
    (R : Row1 enc w0 blk off d0) (hs : d0.size = d.size) (S : SW enc w0 blk off d w) (h1 : lo < m) (h2 : m < hi) (hb : hi ≤ d.size) (hsz : d.size < 4611686018427387904) :
    Calls Try.prog 157 #[.slice (some ⟨blk, off, none⟩) d.size cap, .int .i64 lo, .int .i64 m, .int .i64 hi, .func (.func g) #[] cb] w fun e w' => e = .returned (.tuple #[]) ∧ ∃ d', SW enc w0 blk off d' w' ∧ Rot d d' lo m hi := by
  have S0 : Aside (SW enc w0 blk off d w) := S
  clear S
  have hwa : IntKind.i64.wrap ((m : Int) - (lo : Int)) = (m : Int) - (lo : Int) := IntWalk.i64_in _ (by omega)
  have hwb : IntKind.i64.wrap ((hi : Int) - (m : Int)) = (hi : Int) - (m : Int) := IntWalk.i64_in _ (by omega)
  go_enter Try.func157, Try.ntmps157
  go_wp2_with fail
  go_loopg [10, 11] (hi - lo) (fun g1 vi vj wr => ∃ (i j : Nat) (dk : Array α), vi = .int .i64 i ∧ vj = .int .i64 j ∧ i + j ≤ g1 ∧ dk.size = d.size ∧ Aside (SW enc w0 blk off dk wr) ∧ Aside (RotLeft d dk lo m hi i j))
  case atStart => exact ⟨m - lo, hi - m, d, by rw [show ((m - lo : Nat) : Int) = (m : Int) - (lo : Int) by omega], by rw [show ((hi - m : Nat) : Int) = (hi : Int) - (m : Int) by omega], by omega, rfl, S0, RotLeft.start d lo m hi h1 h2⟩
  case round =>
    clear S0 hwa hwb
    obtain ⟨i, j, dk, rfl, rfl, hg1, hsk, S1, HR⟩ := hrel
    obtain ⟨-, hi0, hj0, hi1, hj1, -⟩ := HR.out
    have hwc : IntKind.i64.wrap ((m : Int) - (i : Int)) = (m : Int) - (i : Int) := IntWalk.i64_in _ (by omega)
    have hwd : IntKind.i64.wrap ((m : Int) + (j : Int)) = (m : Int) + (j : Int) := IntWalk.i64_in _ (by omega)
    have hwe : IntKind.i64.wrap ((m : Int) + (j : Int) - (i : Int)) = (m : Int) + (j : Int) - (i : Int) := IntWalk.i64_in _ (by omega)
    have hwf : IntKind.i64.wrap ((i : Int) - (j : Int)) = (i : Int) - (j : Int) := IntWalk.i64_in _ (by omega)
    have hwg : IntKind.i64.wrap ((j : Int) - (i : Int)) = (j : Int) - (i : Int) := IntWalk.i64_in _ (by omega)
    rcases Nat.lt_trichotomy i j with hij | hij | hij
    · have hz : (i : Int) < (j : Int) := by omega
      have hz1 : ¬ (i : Int) = (j : Int) := by omega
      have hz2 : ¬ i = j := by omega
      have hz3 : ¬ (j : Int) < (i : Int) := by omega
      have hz4 : ¬ j < i := by omega
      have hc1 := swapRange_s enc g cb blk off cap (m - i) (m + j - i) (i) d0 dk w0 wr R (by omega) S1.out (by omega) (by omega) (by omega)
      rw [hsk, show (((m - i) : Nat) : Int) = (m : Int) - (i : Int) by omega, show (((m + j - i) : Nat) : Int) = (m : Int) + (j : Int) - (i : Int) by omega, show (((i) : Nat) : Int) = (i : Int) by omega] at hc1
      have HC1 := Lib.hid hc1
      clear hc1 S1

      go_wp2_with fail
      refine HC1.out.mono ?_
      rintro e w2 ⟨rfl, d', S2, hsw⟩
      have S2' : Aside (SW enc w0 blk off d' w2) := S2
      have HR2 : Aside (RotLeft d d' lo m hi i (j - i)) := HR.out.less hij (by omega) (by omega) (by omega) hsw
      have hsz2 : d'.size = d.size := hsw.1.trans hsk
      clear S2 hsw HR HC1
      go_wp2_with fail
      go_roundg (i + (j - i))
      case measure => omega
      case rel => exact ⟨i, j - i, d', rfl, by rw [show ((j - i : Nat) : Int) = (j : Int) - (i : Int) by omega], Nat.le_refl _, hsz2, S2', HR2⟩
    · subst hij
      have hc1 := swapRange_s enc g cb blk off cap (m - i) (m) (i) d0 dk w0 wr R (by omega) S1.out (by omega) (by omega) (by omega)
      rw [hsk, show (((m - i) : Nat) : Int) = (m : Int) - (i : Int) by omega, show (((m) : Nat) : Int) = (m : Int) by omega, show (((i) : Nat) : Int) = (i : Int) by omega] at hc1
      have HC1 := Lib.hid hc1
      clear hc1 S1

      go_wp2_with fail
      refine HC1.out.mono ?_
      rintro e w2 ⟨rfl, d', S2, hsw⟩
      have S2' : Aside (SW enc w0 blk off d' w2) := S2
      have HR2 : Aside (Rot d d' lo m hi) := HR.out.last (by omega) (by omega) (by omega) hsw
      clear S2 hsw HR HC1
      go_wp2_with fail
      go_end0
      exact ⟨rfl, d', S2'.out, HR2.out⟩
    · have hz : (j : Int) < (i : Int) := by omega
      have hz1 : ¬ (i : Int) = (j : Int) := by omega
      have hz2 : ¬ i = j := by omega
      have hc1 := swapRange_s enc g cb blk off cap (m - i) (m) (j) d0 dk w0 wr R (by omega) S1.out (by omega) (by omega) (by omega)
      rw [hsk, show (((m - i) : Nat) : Int) = (m : Int) - (i : Int) by omega, show (((m) : Nat) : Int) = (m : Int) by omega, show (((j) : Nat) : Int) = (j : Int) by omega] at hc1
      have HC1 := Lib.hid hc1
      clear hc1 S1

      go_wp2_with fail
      refine HC1.out.mono ?_
      rintro e w2 ⟨rfl, d', S2, hsw⟩
      have S2' : Aside (SW enc w0 blk off d' w2) := S2
      have HR2 : Aside (RotLeft d d' lo m hi (i - j) j) := HR.out.more hij (by omega) (by omega) (by omega) hsw
      have hsz2 : d'.size = d.size := hsw.1.trans hsk
      clear S2 hsw HR HC1
      go_wp2_with fail
      go_roundg (i - j + j)
      case measure => omega
      case rel => exact ⟨i - j, j, d', by rw [show ((i - j : Nat) : Int) = (i : Int) - (j : Int) by omega], rfl, Nat.le_refl _, hsz2, S2', HR2⟩
end Go.Proofs.Ytclnfncdphfgjaa
