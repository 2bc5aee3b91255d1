/-
  What jval.copyOf answers: a value that reads as the one that it is given.
-/
import Derived.Test.YtiblffipfldgjaaGreatDoorCopy2
namespace Go.Proofs.YtiblffipfldgjaaGreatDoor
open Go.RowKit

theorem infoList : (Tryz.prog.info? 23).map (fun i => (i.zero, i.size, i.bytes)) = some (some (.slice none 0 0), 1, 24) := by kernel_rfl
theorem infoVal : (Tryz.prog.info? 25).map (fun i => (i.zero, i.size, i.bytes)) = some (some (.agg #[.int .i64 0, .string ⟨#[]⟩, .slice none 0 0, .slice none 0 0]), 4, 72) := by kernel_rfl
theorem infoStr : (Tryz.prog.info? 9).map (fun i => (i.zero, i.size, i.bytes)) = some (some (.string ⟨#[]⟩), 1, 16) := by kernel_rfl

/-- A value that reads as x, through blocks below B or new ones alone. -/
def ValBelow (B n : Nat) (x : JV) (w : World) (e : Ending) (w' : World) : Prop := ∃ v', e = .returned v' ∧ RdD w' (fun b => b < w'.heap.size ∧ (b < B ∨ w.heap.size ≤ b)) n x v' ∧ Below w.heap.size w w'
def XB (B N : Nat) (b : Nat) : Prop := B ≤ b ∧ b < N + 2

def OutRel (X : Nat → Prop) (B0 : Nat) (w0 : World) (T : CE) (k : Nat) (v : Value) (wr : World) : Prop := ∃ es, k = mC es ∧ mC es ≤ 2000001 ∧ CS X B0 w0 es [T] v wr

theorem snocC {α : Type} (l : List α) : l = [] ∨ ∃ i e, l = i ++ [e] := by
  rcases List.eq_nil_or_concat l with h | ⟨i, e, h⟩
  · exact .inl h
  · exact .inr ⟨i, e, by rw [h]; simp⟩

def InRel (X : Nat → Prop) (B0 : Nat) (w0 : World) (T P : CE) (M : Nat) (k : Nat) (i v : Value) (wr : World) : Prop :=
  ∃ (j : Nat) (es : List CE), k = P.xs.length - j ∧ j ≤ P.xs.length ∧ i = .int .i64 j ∧ CS X B0 w0 es [T, P] v wr ∧ mC es + 1 + ((P.xs.drop j).map (nodes P.n)).sum ≤ M

theorem nodes_step (n : Nat) (xs : List JV) (j : Nat) (h : j < xs.length) : ((xs.drop j).map (nodes (n + 1))).sum = 1 + ((xs[j].ps).map (nodes n)).sum + ((xs.drop (j + 1)).map (nodes (n + 1))).sum := by
  rw [List.drop_eq_getElem_cons h, List.map_cons, List.sum_cons]
  rfl

theorem CS.pop {X : Nat → Prop} {B0 : Nat} {w0 w : World} {es ks : List CE} {e : CE} {v : Value} (h : CS X B0 w0 (es ++ [e]) ks v w) :
    ∃ go cap, v = .slice (some ⟨go, 0, none⟩) (es.length + 1) cap ∧ es.length + 1 ≤ cap ∧ w.cell? ⟨go, es.length, none⟩ = some e.cell ∧ CS X B0 w0 es (ks ++ [e]) (.slice (some ⟨go, 0, none⟩) es.length cap) w ∧ e.Ok w X go B0 := by
  obtain ⟨go, hown, hgo, hbw, hle, hok⟩ := h
  rw [List.length_append, List.length_singleton, List.map_append] at hown
  rcases hown.2 with ⟨_, h0⟩ | ⟨g, cap, cur, rfl, _, _, hc, _⟩
  · omega
  · obtain rfl : g = go := by simpa [Value.ownBlock] using hgo
    refine ⟨g, cap, rfl, hc, ?_, ⟨g, ownsRow_pop (by simp) hown, rfl, hbw, hle, fun x hx => hok x ?_⟩, hok e (by simp)⟩
    · rw [hown.cellAt _ (by omega), List.getElem?_append_right (by simp)]
      simp
    · rcases hx with hx | hx
      · exact .inl (by simp [hx])
      · rcases List.mem_append.1 hx with hx | hx
        · exact .inr hx
        · exact .inl (by simp at hx; simp [hx])

theorem CS.lose {X : Nat → Prop} {B0 : Nat} {w0 w : World} {es : List CE} {T P : CE} {v : Value} (h : CS X B0 w0 es [T, P] v w) : CS X B0 w0 es [T] v w := by
  obtain ⟨go, hown, hgo, hbw, hle, hok⟩ := h
  exact ⟨go, hown, hgo, hbw, hle, fun e he => hok e (by rcases he with he | he; exact .inl he; exact .inr (by simp at he; simp [he]))⟩

end Go.Proofs.YtiblffipfldgjaaGreatDoor
