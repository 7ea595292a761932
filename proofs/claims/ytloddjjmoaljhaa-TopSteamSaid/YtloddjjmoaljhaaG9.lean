/- The ledger of the statement on steam: five things. -/
import Derived.Test.YtloddjjmoaljhaaG8
namespace Go.Proofs.Ytloddjjmoaljhaa
open Go.RowKit Go.Lib Go.Shelf Go.Maps
set_option linter.unusedVariables false
set_option linter.unusedSimpArgs false

def L3 (a b : Int) : List Th := [⟨[], a, a⟩, ⟨[], b, b⟩, ⟨[], 77, 77⟩]
def L4 (a b y : Int) : List Th := [⟨[], a, a - a⟩, ⟨[], b, b - b⟩, ⟨[], 77, 77⟩, ⟨[(0, a), (1, b)], y, y⟩]
def L5 (a b y p : Int) : List Th := [⟨[], a, a - a⟩, ⟨[], b, b - b⟩, ⟨[], 77, 77⟩, ⟨[(0, a), (1, b)], y, y - p⟩, ⟨[(3, p)], p, p⟩]
theorem L4_eq (a b y : Int) : givT (L3 a b) [(0, a), (1, b)] ++ [⟨[(0, a), (1, b)], y, y⟩] = L4 a b y := by rfl
theorem L5_eq (a b y p : Int) : givT (L4 a b y) [(3, p)] ++ [⟨[(3, p)], p, p⟩] = L5 a b y p := by rfl
theorem tr5 (a b y p : Int) : trK (L5 a b y p) 5 5 = ([4, 3, 0, 1], [1, 0]) := by rfl
theorem tr5_short (a b y p : Int) : ∀ k, k ≤ 5 → (trK (L5 a b y p) 5 k).1.length ≤ 1000000 ∧ (trK (L5 a b y p) 5 k).2.length ≤ 1000000 := by
  intro k hk
  have h0 : trK (L5 a b y p) 5 0 = ([4], []) := rfl
  have h1 : trK (L5 a b y p) 5 1 = ([4, 3], []) := rfl
  have h2 : trK (L5 a b y p) 5 2 = ([4, 3, 0, 1], []) := rfl
  have h3 : trK (L5 a b y p) 5 3 = ([4, 3, 0, 1], []) := rfl
  have h4 : trK (L5 a b y p) 5 4 = ([4, 3, 0, 1], [1]) := rfl
  have h5 := tr5 a b y p
  rcases (by omega : k = 0 ∨ k = 1 ∨ k = 2 ∨ k = 3 ∨ k = 4 ∨ k = 5) with rfl | rfl | rfl | rfl | rfl | rfl
  · rw [h0]; simp
  · rw [h1]; simp
  · rw [h2]; simp
  · rw [h3]; simp
  · rw [h4]; simp
  · rw [h5]; simp
structure Sz (a b y p : Int) : Prop where
  a1 : 1 ≤ a
  a2 : a ≤ 1000000
  b1 : 1 ≤ b
  b2 : b ≤ 1000000
  y1 : 1 ≤ y
  y2 : y ≤ a + b
  p1 : 1 ≤ p
  p2 : p ≤ y
theorem tkB_nil : tkB [] := ⟨by simp, fun p hp => by cases hp⟩
theorem tkB_two {a b : Int} (ha : 0 ≤ a) (hb : 0 ≤ b) (ha2 : a ≤ 1000000) (hb2 : b ≤ 1000000) : tkB [(0, a), (1, b)] := ⟨by simp, fun p hp => by
  rcases List.mem_cons.1 hp with rfl | hp
  · exact ⟨by simp, by simp, ha, by show a ≤ _; omega⟩
  · rcases List.mem_cons.1 hp with rfl | hp
    · exact ⟨by simp, by simp, hb, by show b ≤ _; omega⟩
    · cases hp⟩
theorem tkB_one {p : Int} (hp0 : 0 ≤ p) (hp2 : p ≤ 1000000000) : tkB [(3, p)] := ⟨by simp, fun q hq => by
  rcases List.mem_cons.1 hq with rfl | hq
  · exact ⟨by simp, by simp, hp0, hp2⟩
  · cases hq⟩
theorem tkB5 {a b y p : Int} (h : Sz a b y p) : ∀ th ∈ L5 a b y p, tkB th.tk := by
  obtain ⟨h1, h2, h3, h4, h5, h6, h7, h8⟩ := h
  intro th ht
  simp only [L5, List.mem_cons, List.not_mem_nil, or_false] at ht
  rcases ht with rfl | rfl | rfl | rfl | rfl
  · exact tkB_nil
  · exact tkB_nil
  · exact tkB_nil
  · exact tkB_two (by omega) (by omega) h2 h4
  · exact tkB_one (by omega) (by omega)
theorem ok5 {a b y p : Int} (h : Sz a b y p) : ∀ k th, k ≤ 4 → (L5 a b y p)[k]? = some th → tkB th.tk ∧ (0 ≤ th.m ∧ th.m ≤ 1000000000) ∧ ∀ q ∈ th.tk, ∃ j : Nat, q.1 = (j : Int) ∧ j < k := by
  obtain ⟨h1, h2, h3, h4, h5, h6, h7, h8⟩ := h
  intro k th hk ht
  rcases (by omega : k = 0 ∨ k = 1 ∨ k = 2 ∨ k = 3 ∨ k = 4) with rfl | rfl | rfl | rfl | rfl
  · simp [L5] at ht; subst ht; exact ⟨tkB_nil, ⟨by show 0 ≤ a; omega, by show a ≤ _; omega⟩, fun q hq => by cases hq⟩
  · simp [L5] at ht; subst ht; exact ⟨tkB_nil, ⟨by show 0 ≤ b; omega, by show b ≤ _; omega⟩, fun q hq => by cases hq⟩
  · simp [L5] at ht; subst ht; exact ⟨tkB_nil, ⟨by show (0 : Int) ≤ 77; omega, by show (77 : Int) ≤ _; omega⟩, fun q hq => by cases hq⟩
  · simp [L5] at ht; subst ht
    refine ⟨tkB_two (by omega) (by omega) h2 h4, ⟨by show 0 ≤ y; omega, by show y ≤ _; omega⟩, fun q hq => ?_⟩
    rcases List.mem_cons.1 hq with rfl | hq
    · exact ⟨0, rfl, by omega⟩
    · rcases List.mem_cons.1 hq with rfl | hq
      · exact ⟨1, rfl, by omega⟩
      · cases hq
  · simp [L5] at ht; subst ht
    refine ⟨tkB_one (by omega) (by omega), ⟨by show 0 ≤ p; omega, by show p ≤ _; omega⟩, fun q hq => ?_⟩
    rcases List.mem_cons.1 hq with rfl | hq
    · exact ⟨3, rfl, by omega⟩
    · cases hq
/-- what each thing holds of the bush -/
theorem am_at (a b y p : Int) (bush : Nat) (x0 x1 x2 x3 x4 : Int × Int) (e0 : amS (L5 a b y p) bush [] 0 = x0) (e1 : amS (L5 a b y p) bush [x0] 1 = x1) (e2 : amS (L5 a b y p) bush [x0, x1] 2 = x2) (e3 : amS (L5 a b y p) bush [x0, x1, x2] 3 = x3) (e4 : amS (L5 a b y p) bush [x0, x1, x2, x3] 4 = x4)
    (B0 : amB x0) (B1 : amB x1) (B2 : amB x2) (B3 : amB x3) : amS (L5 a b y p) bush (amL (L5 a b y p) bush 4) 4 = x4 ∧ ∀ k, k ≤ 4 → ∀ z ∈ amL (L5 a b y p) bush k, amB z := by
  have h0 : amL (L5 a b y p) bush 0 = [] := rfl
  have h1 : amL (L5 a b y p) bush 1 = [x0] := by show amL _ _ 0 ++ [amS _ _ (amL _ _ 0) 0] = _; rw [h0, e0]; rfl
  have h2 : amL (L5 a b y p) bush 2 = [x0, x1] := by show amL _ _ 1 ++ [amS _ _ (amL _ _ 1) 1] = _; rw [h1, e1]; rfl
  have h3 : amL (L5 a b y p) bush 3 = [x0, x1, x2] := by show amL _ _ 2 ++ [amS _ _ (amL _ _ 2) 2] = _; rw [h2, e2]; rfl
  have h4 : amL (L5 a b y p) bush 4 = [x0, x1, x2, x3] := by show amL _ _ 3 ++ [amS _ _ (amL _ _ 3) 3] = _; rw [h3, e3]; rfl
  refine ⟨by rw [h4, e4], fun k hk z hz => ?_⟩
  rcases (by omega : k = 0 ∨ k = 1 ∨ k = 2 ∨ k = 3 ∨ k = 4) with rfl | rfl | rfl | rfl | rfl
  · rw [h0] at hz; cases hz
  · rw [h1] at hz; simp at hz; subst hz; exact B0
  · rw [h2] at hz; simp at hz; rcases hz with rfl | rfl <;> assumption
  · rw [h3] at hz; simp at hz; rcases hz with rfl | rfl | rfl <;> assumption
  · rw [h4] at hz; simp at hz; rcases hz with rfl | rfl | rfl | rfl <;> assumption
theorem amB0 : amB (0, 0) := ⟨by simp, by simp, by simp, by simp⟩
theorem mk2 {x y x' y' : Int} (h1 : x = x') (h2 : y = y') : (x, y) = (x', y') := by rw [h1, h2]
theorem am5_2 {a b y p : Int} (h : Sz a b y p) : amS (L5 a b y p) 2 (amL (L5 a b y p) 2 4) 4 = (0, 0) ∧ ∀ k, k ≤ 4 → ∀ z ∈ amL (L5 a b y p) 2 k, amB z := by
  obtain ⟨h1, h2, h3, h4, h5, h6, h7, h8⟩ := h
  refine am_at a b y p 2 (0, 0) (0, 0) (77, 77) (0, 0) (0, 0) ?_ ?_ ?_ ?_ ?_ amB0 amB0 ⟨by simp, by simp, by simp, by simp⟩ amB0
  all_goals (simp [amS, mdV, amT, am1, loT, tkS, L5, noTh]; try omega)
theorem am5_0 {a b y p : Int} (h : Sz a b y p) : amS (L5 a b y p) 0 (amL (L5 a b y p) 0 4) 4 = (max 0 (p - min y b), min (min a y) p) ∧ ∀ k, k ≤ 4 → ∀ z ∈ amL (L5 a b y p) 0 k, amB z := by
  obtain ⟨h1, h2, h3, h4, h5, h6, h7, h8⟩ := h
  refine am_at a b y p 0 (a, a) (0, 0) (0, 0) (max 0 (y - b), min a y) _ ?_ ?_ ?_ ?_ ?_ ⟨by show 0 ≤ a; omega, by show a ≤ _; omega, by show 0 ≤ a; omega, by show a ≤ _; omega⟩ amB0 amB0 ⟨by show 0 ≤ max 0 (y - b); omega, by show max 0 (y - b) ≤ _; omega, by show 0 ≤ min a y; omega, by show min a y ≤ _; omega⟩
  all_goals (simp [amS, mdV, amT, am1, loT, tkS, L5, noTh]; try omega)
theorem am5_1 {a b y p : Int} (h : Sz a b y p) : amS (L5 a b y p) 1 (amL (L5 a b y p) 1 4) 4 = (max 0 (p - min y a), min (min b y) p) ∧ ∀ k, k ≤ 4 → ∀ z ∈ amL (L5 a b y p) 1 k, amB z := by
  obtain ⟨h1, h2, h3, h4, h5, h6, h7, h8⟩ := h
  refine am_at a b y p 1 (0, 0) (b, b) (0, 0) (max 0 (y - a), min b y) _ ?_ ?_ ?_ ?_ ?_ amB0 ⟨by show 0 ≤ b; omega, by show b ≤ _; omega, by show 0 ≤ b; omega, by show b ≤ _; omega⟩ amB0 ⟨by show 0 ≤ max 0 (y - a); omega, by show max 0 (y - a) ≤ _; omega, by show 0 ≤ min b y; omega, by show min b y ≤ _; omega⟩
  all_goals (simp [amS, mdV, amT, am1, loT, tkS, L5, noTh]; try omega)
theorem am5_any {a b y p : Int} (h : Sz a b y p) (bush : Nat) (hb : bush < 3) {x1 x2 : Int} (hx : amS (L5 a b y p) bush (amL (L5 a b y p) bush 4) 4 = (x1, x2) ∧ ∀ k, k ≤ 4 → ∀ z ∈ amL (L5 a b y p) bush k, amB z) (B l : Nat) (w : World) (hL : LgE B l w (L5 a b y p)) :
    Calls Try.prog 18 #[.pointer (some ⟨l, 0, none⟩), .int .i64 4, .int .i64 (bush : Int)] w fun e w' => e = .returned (.tuple #[.agg #[.int .i64 x1, .int .i64 x2], .int .i64 0]) ∧ Below w.heap.size w w' := by
  obtain ⟨pb, hp, hpt⟩ : ∃ pb, (L5 a b y p)[bush]? = some pb ∧ pb.tk = [] := by
    rcases (by omega : bush = 0 ∨ bush = 1 ∨ bush = 2) with rfl | rfl | rfl
    · exact ⟨_, rfl, rfl⟩
    · exact ⟨_, rfl, rfl⟩
    · exact ⟨_, rfl, rfl⟩
  have c := amount_ok B l (L5 a b y p) 4 bush pb w hL (by simp [L5]) (by simp [L5]) hp hpt (ok5 h) hx.2
  rw [hx.1] at c
  exact c
theorem tr5_any {a b y p : Int} (h : Sz a b y p) (B l : Nat) (w : World) (hL : LgE B l w (L5 a b y p)) :
    Calls Try.prog 17 #[.pointer (some ⟨l, 0, none⟩), .int .i64 4] w fun e w' => ∃ g c, e = .returned (.tuple #[.slice (some ⟨g, 0, none⟩) 2 c, .int .i64 0]) ∧
      (w'.cell? ⟨g, 0, none⟩ = some (.int .i64 0) ∧ w'.cell? ⟨g, 1, none⟩ = some (.int .i64 1)) ∧ g < w'.heap.size ∧ Below w.heap.size w w' := by
  have c := trace_ok B l (L5 a b y p) 4 w hL (by simp [L5]) (by simp [L5]) (tkB5 h) (by rw [tr5]; simp) (tr5_short a b y p)
  rw [tr5] at c
  refine c.mono ?_
  rintro e w' ⟨g, c, rfl, hc, hg, hb⟩
  exact ⟨g, c, rfl, ⟨hc 0 0 (by simp), hc 1 1 (by simp)⟩, hg, hb⟩
theorem left4_any {a b y : Int} (ha : 1 ≤ a ∧ a ≤ 1000000) (hb : 1 ≤ b ∧ b ≤ 1000000) (hy : 1 ≤ y ∧ y ≤ a + b) (B l : Nat) (w : World) (hL : LgE B l w (L4 a b y)) :
    Calls Try.prog 16 #[.pointer (some ⟨l, 0, none⟩), .int .i64 3] w fun e w' => e = .returned (.tuple #[.int .i64 y, .int .i64 (a + b - y), .int .i64 0]) ∧ Below w.heap.size w w' := by
  have c := left_ok B l (L4 a b y) 3 ⟨[(0, a), (1, b)], y, y⟩ w (by simp [L4]) rfl (tkB_two (by omega) (by omega) (by omega) (by omega)) ⟨by show 0 ≤ y; omega, by show y ≤ _; omega⟩ hL
  rw [show loT ⟨[(0, a), (1, b)], y, y⟩ = a + b - y from by simp [loT, tkS]] at c
  exact c
theorem make1_any {a b y : Int} (ha : 1 ≤ a ∧ a ≤ 1000000) (hb : 1 ≤ b ∧ b ≤ 1000000) (hy : 1 ≤ y ∧ y ≤ a + b) (B l g cp : Nat) (w : World) (hL : LgE B l w (L3 a b)) (hg : g < w.heap.size) (hsep : ∀ V hs, Lg B l w V hs → hs.map Prod.snd = L3 a b → g ≠ l ∧ V.ownBlock ≠ some g) (hcp : 2 ≤ cp)
    (c0 : w.cell? ⟨g, 0, none⟩ = some (.int .i64 0)) (c1 : w.cell? ⟨g, 1, none⟩ = some (.int .i64 a)) (c2 : w.cell? ⟨g, 2, none⟩ = some (.int .i64 1)) (c3 : w.cell? ⟨g, 3, none⟩ = some (.int .i64 b)) :
    Calls Try.prog 15 #[.pointer (some ⟨l, 0, none⟩), .slice (some ⟨g, 0, none⟩) 2 cp, .int .i64 y] w fun e w' => e = .returned (.tuple #[.int .i64 3, .int .i64 0]) ∧ LgE B l w' (L4 a b y) ∧ Below B w w' := by
  obtain ⟨V, hs, hh, hl⟩ := hL
  obtain ⟨s1, s2⟩ := hsep V hs hl hh
  have hlen : hs.length = 3 := by have := congrArg List.length hh; simpa [L3] using this
  have hat : ∀ k th, (L3 a b)[k]? = some th → ∃ v, hs[k]? = some (v, th) := fun k th ht => by
    rw [← hh, List.getElem?_map] at ht
    cases hq : hs[k]? with
    | none => rw [hq] at ht; cases ht
    | some q => rw [hq] at ht; injection ht with ht; exact ⟨q.1, by subst ht; exact hq⟩
  obtain ⟨v0, q0⟩ := hat 0 ⟨[], a, a⟩ rfl
  obtain ⟨v1, q1⟩ := hat 1 ⟨[], b, b⟩ rfl
  have c := make_ok B l V (.slice (some ⟨g, 0, none⟩) 2 cp) hs [(0, a), (1, b)] y w (by simp) (by simp) (by omega) hl ⟨_, cp, rfl, hcp, fun _ => ⟨g, 0, rfl, hg, fun h => by rcases h with h | h; exact s1 h; exact s2 h, fun k q hq => by
    rcases k with _ | _ | k
    · simp at hq; subst hq; exact ⟨c0, c1⟩
    · simp at hq; subst hq; exact ⟨c2, c3⟩
    · simp at hq⟩⟩ (fun k q hq => by
    rcases k with _ | _ | k
    · simp at hq; subst hq; exact ⟨0, (v0, ⟨[], a, a⟩), rfl, q0, ha.1, Int.le_refl _, by show a ≤ _; omega, by simp⟩
    · simp at hq; subst hq; exact ⟨1, (v1, ⟨[], b, b⟩), rfl, q1, hb.1, Int.le_refl _, by show b ≤ _; omega, by simp⟩
    · simp at hq) (tkB_two (by omega) (by omega) (by omega) (by omega)) hy.1 (by omega) (by simp [tkS]; omega)
  rw [hh, L4_eq, hlen] at c
  exact c
theorem make2_any {a b y p : Int} (ha : 1 ≤ a ∧ a ≤ 1000000) (hb : 1 ≤ b ∧ b ≤ 1000000) (hy : 1 ≤ y ∧ y ≤ a + b) (hp : 1 ≤ p ∧ p ≤ y) (B l g cp : Nat) (w : World) (hL : LgE B l w (L4 a b y)) (hg : g < w.heap.size) (hsep : ∀ V hs, Lg B l w V hs → hs.map Prod.snd = L4 a b y → g ≠ l ∧ V.ownBlock ≠ some g) (hcp : 1 ≤ cp)
    (c0 : w.cell? ⟨g, 0, none⟩ = some (.int .i64 3)) (c1 : w.cell? ⟨g, 1, none⟩ = some (.int .i64 p)) :
    Calls Try.prog 15 #[.pointer (some ⟨l, 0, none⟩), .slice (some ⟨g, 0, none⟩) 1 cp, .int .i64 p] w fun e w' => e = .returned (.tuple #[.int .i64 4, .int .i64 0]) ∧ LgE B l w' (L5 a b y p) ∧ Below B w w' := by
  obtain ⟨V, hs, hh, hl⟩ := hL
  obtain ⟨s1, s2⟩ := hsep V hs hl hh
  have hlen : hs.length = 4 := by have := congrArg List.length hh; simpa [L4] using this
  obtain ⟨v0, q0⟩ : ∃ v, hs[3]? = some (v, ⟨[(0, a), (1, b)], y, y⟩) := by
    have ht : (L4 a b y)[3]? = some ⟨[(0, a), (1, b)], y, y⟩ := rfl
    rw [← hh, List.getElem?_map] at ht
    cases hq : hs[3]? with
    | none => rw [hq] at ht; cases ht
    | some q => rw [hq] at ht; injection ht with ht; exact ⟨q.1, by rw [← ht]⟩
  have c := make_ok B l V (.slice (some ⟨g, 0, none⟩) 1 cp) hs [(3, p)] p w (by simp) (by simp) (by omega) hl ⟨_, cp, rfl, hcp, fun _ => ⟨g, 0, rfl, hg, fun h => by rcases h with h | h; exact s1 h; exact s2 h, fun k q hq => by
    rcases k with _ | k
    · simp at hq; subst hq; exact ⟨c0, c1⟩
    · simp at hq⟩⟩ (fun k q hq => by
    rcases k with _ | k
    · simp at hq; subst hq; exact ⟨3, (v0, ⟨[(0, a), (1, b)], y, y⟩), rfl, q0, hp.1, hp.2, by show y ≤ _; omega, by simp⟩
    · simp at hq) (tkB_one (by omega) (by omega)) hp.1 (by omega) (by simp [tkS])
  rw [hh, L5_eq, hlen] at c
  exact c
/-- a block made after the ledger is none of the ledger's -/
theorem LgE.apart {B l g : Nat} {w w' : World} {ths : List Th} (h : LgE B l w ths) (hb : Below w.heap.size w w') (hg : w.heap.size ≤ g) : ∀ V hs, Lg B l w' V hs → g ≠ l ∧ V.ownBlock ≠ some g := by
  obtain ⟨V0, hs0, _, h0⟩ := h
  intro V hs h1
  have e := cell_next hb h0.lt h0.cell
  rw [h1.cell] at e
  injection e with e
  subst e
  refine ⟨fun e => by have := h0.lt; omega, fun e => ?_⟩
  have := (World.ownsRow.lt h0.row _ e).2
  omega
theorem LgE.lt {B l : Nat} {w : World} {ths : List Th} (h : LgE B l w ths) : l < w.heap.size := by
  obtain ⟨V0, hs0, _, h0⟩ := h
  exact h0.lt
theorem ga1_any (m : Int) (B l : Nat) (w : World) (hm : 1 ≤ m ∧ m ≤ 1000000) (hL : LgE B l w []) :
    Calls Try.prog 14 #[.pointer (some ⟨l, 0, none⟩), .int .i64 m] w fun e w' => e = .returned (.tuple #[.int .i64 0, .int .i64 0]) ∧ LgE B l w' [⟨[], m, m⟩] ∧ Below B w w' :=
  gather_ok B l [] m w ⟨hm.1, by omega⟩ (by simp) hL
theorem ga2_any (a m : Int) (B l : Nat) (w : World) (hm : 1 ≤ m ∧ m ≤ 1000000) (hL : LgE B l w [⟨[], a, a⟩]) :
    Calls Try.prog 14 #[.pointer (some ⟨l, 0, none⟩), .int .i64 m] w fun e w' => e = .returned (.tuple #[.int .i64 1, .int .i64 0]) ∧ LgE B l w' [⟨[], a, a⟩, ⟨[], m, m⟩] ∧ Below B w w' :=
  gather_ok B l [⟨[], a, a⟩] m w ⟨hm.1, by omega⟩ (by simp) hL
theorem ga3_any (a b : Int) (B l : Nat) (w : World) (hL : LgE B l w [⟨[], a, a⟩, ⟨[], b, b⟩]) :
    Calls Try.prog 14 #[.pointer (some ⟨l, 0, none⟩), .int .i64 77] w fun e w' => e = .returned (.tuple #[.int .i64 2, .int .i64 0]) ∧ LgE B l w' (L3 a b) ∧ Below B w w' :=
  gather_ok B l [⟨[], a, a⟩, ⟨[], b, b⟩] 77 w ⟨by omega, by omega⟩ (by simp) hL
end Go.Proofs.Ytloddjjmoaljhaa
