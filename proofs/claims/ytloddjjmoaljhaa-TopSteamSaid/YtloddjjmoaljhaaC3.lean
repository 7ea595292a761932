/- Contracts: quotients of two and of three numbers. -/
import Derived.Test.YtloddjjmoaljhaaC2
import Derived.Laws.CopyOwn
namespace Go.Proofs.Ytloddjjmoaljhaa
open Go.RowKit Go.Lib
set_option linter.unusedVariables false
set_option linter.unusedSimpArgs false

theorem alloc_alloc_new (w : World) (o p : Obj) : ((w.alloc o).alloc p).heap[w.heap.size + 1]? = some p := by
  have h := heap_alloc_new (w.alloc o) p
  simpa using h
theorem cells3 {w : World} {g : Nat} {a b c : Value} (h0 : w.cell? ⟨g, 0, none⟩ = some a) (h1 : w.cell? ⟨g, 1, none⟩ = some b) (h2 : w.cell? ⟨g, 2, none⟩ = some c) :
    ∀ j v, [a, b, c][j]? = some v → w.cell? ⟨g, j, none⟩ = some v := by
  intro j v hj
  rcases j with _ | _ | _ | j
  · simp at hj; subst hj; exact h0
  · simp at hj; subst hj; exact h1
  · simp at hj; subst hj; exact h2
  · simp at hj
theorem cells2 {w : World} {g : Nat} {a b : Value} (h0 : w.cell? ⟨g, 0, none⟩ = some a) (h1 : w.cell? ⟨g, 1, none⟩ = some b) :
    ∀ j v, [a, b][j]? = some v → w.cell? ⟨g, j, none⟩ = some v := by
  intro j v hj
  rcases j with _ | _ | j
  · simp at hj; subst hj; exact h0
  · simp at hj; subst hj; exact h1
  · simp at hj

theorem row3 {W : World} {g : Nat} {t : TypeId} {x y z a b c : Value} (h : Hid (W.heap[g]? = some (.cells (splice [x, y, z] 0 [a, b, c]).toArray t (0, 0)))) :
    W.cell? ⟨g, 0, none⟩ = some a ∧ W.cell? ⟨g, 1, none⟩ = some b ∧ W.cell? ⟨g, 2, none⟩ = some c ∧ W.frozen? ⟨g, 0, none⟩ = false ∧ W.frozen? ⟨g, 1, none⟩ = false ∧ W.frozen? ⟨g, 2, none⟩ = false := by
  have h' := h.out
  refine ⟨?_, ?_, ?_, ?_, ?_, ?_⟩
  · rw [cell_of_row W g 0 _ t (0, 0) h']; rfl
  · rw [cell_of_row W g 1 _ t (0, 0) h']; rfl
  · rw [cell_of_row W g 2 _ t (0, 0) h']; rfl
  · simp [World.frozen?, h']
  · simp [World.frozen?, h']
  · simp [World.frozen?, h']

theorem row2 {W : World} {g : Nat} {t : TypeId} {x y z a b : Value} (h : Hid (W.heap[g]? = some (.cells (splice [x, y, z] 0 [a, b]).toArray t (0, 0)))) :
    W.cell? ⟨g, 0, none⟩ = some a ∧ W.cell? ⟨g, 1, none⟩ = some b ∧ W.cell? ⟨g, 2, none⟩ = some z ∧ W.frozen? ⟨g, 0, none⟩ = false ∧ W.frozen? ⟨g, 1, none⟩ = false ∧ W.frozen? ⟨g, 2, none⟩ = false := by
  have h' := h.out
  refine ⟨?_, ?_, ?_, ?_, ?_, ?_⟩
  · rw [cell_of_row W g 0 _ t (0, 0) h']; rfl
  · rw [cell_of_row W g 1 _ t (0, 0) h']; rfl
  · rw [cell_of_row W g 2 _ t (0, 0) h']; rfl
  · simp [World.frozen?, h']
  · simp [World.frozen?, h']
  · simp [World.frozen?, h']

set_option maxRecDepth 20000 in
set_option maxHeartbeats 400000 in
theorem quotientOf3 (a b c : Int) (g : Nat) (w : World) (hg : g < w.heap.size) (h0 : w.cell? ⟨g, 0, none⟩ = some (.int .i64 a)) (h1 : w.cell? ⟨g, 1, none⟩ = some (.int .i64 b)) (h2 : w.cell? ⟨g, 2, none⟩ = some (.int .i64 c)) :
    Calls Try.prog 22 #[.slice (some ⟨g, 0, none⟩) 3 3] w fun e w' => e = .returned (.agg #[.int .i64 a, .int .i64 b, .int .i64 c]) ∧ Below w.heap.size w w' := by
  have hsrc := Lib.hid (cells3 h0 h1 h2)
  clear h0 h1 h2
  go_enter Try.func22, Try.ntmps22
  go_wp2_with (refine wpList_copy_splice (o := ⟨some 7, _, _, _, _, _⟩) rfl (.tmp 5) (.tmp 6) 59 59 rfl 3 Try.underlying59 (by kernel_rfl) (some ⟨w.heap.size + 1, 0, none⟩) (some ⟨g, 0, none⟩) 3 3 3 3 rfl rfl (w.heap.size + 1) 0 [.int .i64 1, .int .i64 1, .int .i64 1] 68 ?c1 [.int .i64 a, .int .i64 b, .int .i64 c] rfl ?c2 ?c3 ?c4 (w.heap.size + 1) (w.alloc (.cells #[.int .i64 0, .int .i64 0, .int .i64 0] 68)) ?c5 ?c6 ?_)
  case c1 => exact alloc_alloc_new w _ _
  case c2 => exact hsrc.out
  case c3 => simp
  case c4 => simp [Value.oneCell']
  case c5 => exact (Below.refl _ _).alloc (by simp) _
  case c6 => omega
  intro W hW hbW
  obtain ⟨e0, e1, e2, f0, f1, f2⟩ := row3 hW
  have hz := hbW.size
  have hc0 := hbW.cell (p := ⟨w.heap.size, 0, none⟩) (by simp)
  have hc1 := hbW.cell (p := ⟨w.heap.size, 1, none⟩) (by simp)
  have hc2 := hbW.cell (p := ⟨w.heap.size, 2, none⟩) (by simp)
  have hf0 := hbW.frozen (p := ⟨w.heap.size, 0, none⟩) (by simp)
  have hf1 := hbW.frozen (p := ⟨w.heap.size, 1, none⟩) (by simp)
  have hf2 := hbW.frozen (p := ⟨w.heap.size, 2, none⟩) (by simp)
  clear hW
  go_wp2
  refine bodyPost_ret (v := .agg #[.int .i64 a, .int .i64 b, .int .i64 c]) (by simp [results, Try.results22, go_sem, hc0, hc1, hc2, hf0, hf1, hf2]) rfl ⟨rfl, ?_⟩
  exact (((((Below.refl _ _).alloc (Nat.le_refl _) _).trans (hbW.mono (by omega))).setCell (by simp) _).setCell (by simp) _).setCell (by simp) _

set_option maxRecDepth 20000 in
set_option maxHeartbeats 400000 in
theorem quotientOf2 (a b : Int) (g : Nat) (w : World) (hg : g < w.heap.size) (h0 : w.cell? ⟨g, 0, none⟩ = some (.int .i64 a)) (h1 : w.cell? ⟨g, 1, none⟩ = some (.int .i64 b)) :
    Calls Try.prog 22 #[.slice (some ⟨g, 0, none⟩) 2 2] w fun e w' => e = .returned (.agg #[.int .i64 a, .int .i64 b, .int .i64 1]) ∧ Below w.heap.size w w' := by
  have hsrc := Lib.hid (cells2 h0 h1)
  clear h0 h1
  go_enter Try.func22, Try.ntmps22
  go_wp2_with (refine wpList_copy_splice (o := ⟨some 7, _, _, _, _, _⟩) rfl (.tmp 5) (.tmp 6) 59 59 rfl 3 Try.underlying59 (by kernel_rfl) (some ⟨w.heap.size + 1, 0, none⟩) (some ⟨g, 0, none⟩) 3 3 2 2 rfl rfl (w.heap.size + 1) 0 [.int .i64 1, .int .i64 1, .int .i64 1] 68 ?c1 [.int .i64 a, .int .i64 b] rfl ?c2 ?c3 ?c4 (w.heap.size + 1) (w.alloc (.cells #[.int .i64 0, .int .i64 0, .int .i64 0] 68)) ?c5 ?c6 ?_)
  case c1 => exact alloc_alloc_new w _ _
  case c2 => exact hsrc.out
  case c3 => simp
  case c4 => simp [Value.oneCell']
  case c5 => exact (Below.refl _ _).alloc (by simp) _
  case c6 => omega
  intro W hW hbW
  obtain ⟨e0, e1, e2, f0, f1, f2⟩ := row2 hW
  have hz := hbW.size
  have hc0 := hbW.cell (p := ⟨w.heap.size, 0, none⟩) (by simp)
  have hc1 := hbW.cell (p := ⟨w.heap.size, 1, none⟩) (by simp)
  have hc2 := hbW.cell (p := ⟨w.heap.size, 2, none⟩) (by simp)
  have hf0 := hbW.frozen (p := ⟨w.heap.size, 0, none⟩) (by simp)
  have hf1 := hbW.frozen (p := ⟨w.heap.size, 1, none⟩) (by simp)
  have hf2 := hbW.frozen (p := ⟨w.heap.size, 2, none⟩) (by simp)
  clear hW
  go_wp2
  refine bodyPost_ret (v := .agg #[.int .i64 a, .int .i64 b, .int .i64 1]) (by simp [results, Try.results22, go_sem, hc0, hc1, hc2, hf0, hf1, hf2]) rfl ⟨rfl, ?_⟩
  exact (((((Below.refl _ _).alloc (Nat.le_refl _) _).trans (hbW.mono (by omega))).setCell (by simp) _).setCell (by simp) _).setCell (by simp) _

end Go.Proofs.Ytloddjjmoaljhaa

