/-
  jread: what read and Read answer.
-/
import Derived.Test.YtbcenaljaoejkaaDoorJr10
namespace Go.Proofs.YtbcenaljaoejkaaDoor
open Go.RowKit

/-- The closure that recovers, of a call that returns: nothing. -/
theorem catch_idle (p q : Addr) (w : World) :
    CallsD Tryd.prog 21 #[.pointer (some p), .pointer (some q)] .returning w fun e u' w' => e = .returned (.tuple #[]) ∧ u' = .returning ∧ w = w' := by
  refine callsD_of_wpS Tryd.func21 rfl fun c₀ cs hu => ?_
  apply wpS_seq
  apply wpS_region
  simp [wpOpsS, go_sem, recoverD, hu, Tryd.ntmps21, Exit.thenS]
  refine wpS_of_wp ?_
  go_wp2_with fail
  cases c₀
  simp_all [bodyPostS, results, Tryd.results21]

theorem fail_world (B : Nat) (c : Int) (w : World) (hx : Bx w B) (e0 : Int) (he : w.cell? ⟨B + 1, 0, none⟩ = some (.int .i64 e0)) :
    Bx ((((((w.setCell ⟨B, 0, none⟩ (.int .i64 0)).setCell ⟨B, 1, none⟩ (.string ⟨#[]⟩)).setCell ⟨B, 2, none⟩ (.slice none 0 0)).setCell ⟨B, 3, none⟩ (.slice none 0 0)).setCell ⟨B + 1, 0, none⟩ (.int .i64 c)).alloc (.cells #[.int .i64 c] 53)).drew B ∧
    ((((((w.setCell ⟨B, 0, none⟩ (.int .i64 0)).setCell ⟨B, 1, none⟩ (.string ⟨#[]⟩)).setCell ⟨B, 2, none⟩ (.slice none 0 0)).setCell ⟨B, 3, none⟩ (.slice none 0 0)).setCell ⟨B + 1, 0, none⟩ (.int .i64 c)).alloc (.cells #[.int .i64 c] 53)).drew.cell? ⟨B + 1, 0, none⟩ = some (.int .i64 c) ∧
    Below B w ((((((w.setCell ⟨B, 0, none⟩ (.int .i64 0)).setCell ⟨B, 1, none⟩ (.string ⟨#[]⟩)).setCell ⟨B, 2, none⟩ (.slice none 0 0)).setCell ⟨B, 3, none⟩ (.slice none 0 0)).setCell ⟨B + 1, 0, none⟩ (.int .i64 c)).alloc (.cells #[.int .i64 c] 53)).drew := by
  have hlt := hx.lt
  have hlt2 : B + 1 < w.heap.size := World.block_lt_of_cell? w _ he
  obtain ⟨W, hW⟩ : ∃ W, W = (((w.setCell ⟨B, 0, none⟩ (.int .i64 0)).setCell ⟨B, 1, none⟩ (.string ⟨#[]⟩)).setCell ⟨B, 2, none⟩ (.slice none 0 0)).setCell ⟨B, 3, none⟩ (.slice none 0 0) := ⟨_, rfl⟩
  rw [← hW]
  have hsz : W.heap.size = w.heap.size := by rw [hW]; exact size_four _ _ _ _ _ _
  have hbx : Bx W B := by
    rw [hW]
    obtain ⟨r0, r1, r2, r3, rf⟩ := hx
    refine ⟨?_, ?_, ?_, ?_, fun j => ?_⟩
    · simp [go_sem, r0]
    · simp [go_sem, r1]
    · simp [go_sem, r2]
    · simp [go_sem, r3]
    · rw [World.frozen?_setCell, World.frozen?_setCell, World.frozen?_setCell, World.frozen?_setCell]; exact rf j
  have he1 : W.cell? ⟨B + 1, 0, none⟩ = some (.int .i64 e0) := by
    rw [hW]
    exact (World.cell?_of_block (a := ⟨B + 1, 0, none⟩) (heap_four _ _ _ _ _ _ (B + 1) (by omega))).trans he
  have hb : Below B w W := by
    rw [hW]
    exact ((((Below.refl B w).setCell (p := ⟨B, 0, none⟩) (Nat.le_refl _) _).setCell (p := ⟨B, 1, none⟩) (Nat.le_refl _) _).setCell (p := ⟨B, 2, none⟩) (Nat.le_refl _) _).setCell (p := ⟨B, 3, none⟩) (Nat.le_refl _) _
  have hs2 : (W.setCell ⟨B + 1, 0, none⟩ (.int .i64 c)).heap.size = w.heap.size := by rw [← hsz]; simp [World.setCell]
  refine ⟨?_, ?_, ((hb.setCell (p := ⟨B + 1, 0, none⟩) (by show B ≤ B + 1; omega) _).alloc (by rw [hs2]; omega) _).drew⟩
  · have h1 : Bx (W.setCell ⟨B + 1, 0, none⟩ (.int .i64 c)) B := hbx.keep (Below.heap_setCell _ _ _ _ (by show B ≠ B + 1; omega))
    exact h1.keep (Below.heap_alloc _ _ _ (by rw [hs2]; exact hlt))
  · have h1 : ((W.setCell ⟨B + 1, 0, none⟩ (.int .i64 c)).alloc (.cells #[.int .i64 c] 53)).cell? ⟨B + 1, 0, none⟩ = (W.setCell ⟨B + 1, 0, none⟩ (.int .i64 c)).cell? ⟨B + 1, 0, none⟩ := World.cell?_of_block (a := ⟨B + 1, 0, none⟩) (Below.heap_alloc _ _ _ (by rw [hs2]; exact hlt2))
    exact h1.trans (World.cell?_setCell_same _ _ _ he1)

set_option maxHeartbeats 2000000 in
set_option maxRecDepth 100000 in
/-- .. of one that has failed: the error. -/
theorem catch_fail (B : Nat) (c : Int) (w : World) (hx : Bx w B) (e0 : Int) (he : w.cell? ⟨B + 1, 0, none⟩ = some (.int .i64 e0)) (hf : w.frozen? ⟨B + 1, 0, none⟩ = false) :
    CallsD Tryd.prog 21 #[.pointer (some ⟨B, 0, none⟩), .pointer (some ⟨B + 1, 0, none⟩)] (.panicking [pe c]) w fun e u' w' =>
      e = .returned (.tuple #[]) ∧ u' = .panicking [{ v := .iface 53 (.agg #[.int .i64 c]), recovered := true }] ∧ Bx w' B ∧ w'.cell? ⟨B + 1, 0, none⟩ = some (.int .i64 c) ∧ Below B w w' := by
  have hlt := hx.lt
  have HW := Lib.hid (fail_world B c w hx e0 he)
  obtain ⟨r0, r1, r2, r3, rf⟩ := hx
  have hta : ∀ (v : Value) (W : World), (Instr.typeAssert (.iface 53 v) 20 53 true).run Tryd.prog W = .ok (.tuple #[v, .bool true]) W := fun v W => by kernel_rfl
  have hlt2 : B + 1 < w.heap.size := World.block_lt_of_cell? w _ he
  refine callsD_of_wpS Tryd.func21 rfl fun c₀ cs hu => ?_
  unfold pe at hu
  apply wpS_seq
  apply wpS_region
  simp [wpOpsS, go_sem, recoverD, hu, Tryd.ntmps21, Exit.thenS]
  refine wpS_of_wp ?_
  go_wp2_with fail
  go_region
  all_goals
    go_wp2_with fail
    exact ⟨rfl, _, rfl, .tuple #[], by simp [results, Tryd.results21], rfl, rfl, HW.out⟩

end Go.Proofs.YtbcenaljaoejkaaDoor
