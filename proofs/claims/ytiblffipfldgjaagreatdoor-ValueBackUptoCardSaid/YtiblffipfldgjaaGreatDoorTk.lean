/-
  A row of tokens, as a later call finds it.
-/
import Derived.Test.YtiblffipfldgjaaGreatDoorLx7
namespace Go.Proofs.YtiblffipfldgjaaGreatDoor
open Go.RowKit

theorem tkCells_at : ∀ (ts : List Tk) (j : Nat) (t : Tk), ts[j]? = some t → (tkCells ts)[j * 3]? = some (.int .i64 t.k) ∧ (tkCells ts)[j * 3 + 1]? = some (.string ⟨t.s.toArray⟩) ∧ (tkCells ts)[j * 3 + 2]? = some (.int .i64 t.at_)
  | [], _, _, h => by simp at h
  | a :: ts, 0, t, h => by
    simp only [List.getElem?_cons_zero, Option.some.injEq] at h
    subst h
    exact ⟨rfl, rfl, rfl⟩
  | a :: ts, j + 1, t, h => by
    have := tkCells_at ts j t (by simpa using h)
    have e : tkCells (a :: ts) = [.int .i64 a.k, .string ⟨a.s.toArray⟩, .int .i64 a.at_] ++ tkCells ts := rfl
    rw [e, show (j + 1) * 3 = 3 + j * 3 by omega]
    refine ⟨?_, ?_, ?_⟩
    · rw [List.getElem?_append_right (by simp)]; simpa using this.1
    · rw [List.getElem?_append_right (by simp; omega)]
      rw [show 3 + j * 3 + 1 - [Value.int .i64 a.k, .string ⟨a.s.toArray⟩, .int .i64 a.at_].length = j * 3 + 1 by simp; omega]
      exact this.2.1
    · rw [List.getElem?_append_right (by simp; omega)]
      rw [show 3 + j * 3 + 2 - [Value.int .i64 a.k, .string ⟨a.s.toArray⟩, .int .i64 a.at_].length = j * 3 + 2 by simp; omega]
      exact this.2.2
/-- A row of tokens, as a call finds it. -/
def TkAt (w : World) (a : Option Addr) (ts : List Tk) : Prop := 0 < ts.length → ∃ g, a = some ⟨g, 0, none⟩ ∧ ∀ j u, (tkCells ts)[j]? = some u → w.cell? ⟨g, j, none⟩ = some u
theorem tkAt_of {w : World} {B : Nat} {T : TypeId} {v : Value} {ts : List Tk} (h : w.ownsRow B T 3 v ts.length (tkCells ts)) : ∃ a cap, v = .slice a ts.length cap ∧ ts.length ≤ cap ∧ TkAt w a ts ∧ ∀ w', Below w.heap.size w w' → TkAt w' a ts := by
  rcases h.2 with ⟨hv, h0⟩ | ⟨g, cap, cur, hv, hB, hg, hcap, _⟩
  · exact ⟨none, 0, by rw [hv, h0], by omega, fun h' => absurd h' (by omega), fun _ _ h' => absurd h' (by omega)⟩
  · refine ⟨some ⟨g, 0, none⟩, cap, hv, hcap, fun _ => ⟨g, rfl, fun j u hj => ?_⟩, fun w' hb _ => ⟨g, rfl, fun j u hj => ?_⟩⟩
    · have := h.cells (g := g) (by rw [hv]; rfl) j u hj
      have e : (⟨g, 0, none⟩ : Addr).add j = ⟨g, j, none⟩ := by cases j <;> simp [Addr.add]
      rwa [e] at this
    · have := (own_below h hb).cells (g := g) (by rw [hv]; rfl) j u hj
      have e : (⟨g, 0, none⟩ : Addr).add j = ⟨g, j, none⟩ := by cases j <;> simp [Addr.add]
      rwa [e] at this

theorem lxGo_len : ∀ (f a : Nat) (l : List UInt8) (acc : List Tk), (lxGo f a l acc).1.length ≤ acc.length + l.length
  | 0, _, _, _ => Nat.le_add_right _ _
  | _ + 1, _, [], _ => Nat.le_add_right _ _
  | f + 1, a, b :: r, acc => by
    cases hb : lxBlank b with
    | true =>
      rw [lxGo_blank _ _ _ _ _ hb]
      have := lxGo_len f (a + 1) r acc
      rw [List.length_cons]
      omega
    | false =>
      cases h35 : (b == 35) with
      | true =>
        rw [lxGo_rem _ _ _ _ _ hb h35]
        have := lxGo_len f (a + lxRem (b :: r)) ((b :: r).drop (lxRem (b :: r))) acc
        rw [List.length_drop] at this
        omega
      | false =>
        cases hw : lxWord (b :: r) with
        | none =>
          rw [lxGo_none _ _ _ _ _ hb h35 hw]
          exact Nat.zero_le _
        | some o =>
          obtain ⟨k, s, m⟩ := o
          rw [lxGo_some _ _ _ _ _ hb h35 hw]
          have hp := lxWord_le hw
          have := lxGo_len f (a + m) ((b :: r).drop m) (acc ++ [⟨k, s, a⟩])
          rw [List.length_drop, List.length_append, List.length_singleton] at this
          omega
theorem lexP_len (l : List UInt8) : (lexP l).1.length ≤ 8000 := by
  unfold lexP
  split
  · exact Nat.zero_le _
  · have := lxGo_len (l.length + 1) 0 l []
    simp only [List.length_nil] at this
    omega


end Go.Proofs.YtiblffipfldgjaaGreatDoor
