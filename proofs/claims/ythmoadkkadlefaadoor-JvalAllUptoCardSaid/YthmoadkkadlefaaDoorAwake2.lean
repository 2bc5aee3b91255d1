/-
  The document's example of layer 2: awake answers true.
-/
import Derived.Test.YthmoadkkadlefaaDoorGet
import Derived.Test.YthmoadkkadlefaaDoorText2
import Derived.Test.YthmoadkkadlefaaDoorSame2
import Derived.Test.YthmoadkkadlefaaDoorPlace
namespace Go.Proofs.YthmoadkkadlefaaDoor
open Go.RowKit

def oneJ : JV := .mk 3 ⟨#[49]⟩ [] []
def exJ : JV := .mk 8 ⟨#[]⟩ [⟨#[97]⟩] [oneJ]

theorem ex_valid : Lib.validD [97] = true := by
  rw [Lib.validD_step _ (by simp), Lib.decodeL_ascii 97 [] (by decide)]
  simp
  rfl
theorem ex_get : getJ exJ ⟨#[97]⟩ = some oneJ := by
  have e : Lib.idxOfS exJ.ns ⟨#[97]⟩ = 0 := by
    show Lib.idxFromS [⟨#[97]⟩] ⟨#[97]⟩ 0 = 0
    simp [Lib.idxFromS]
  unfold getJ
  rw [e, if_pos ⟨rfl, by decide, by decide⟩]
  rfl
theorem ex_num : numOk [49] = true ∧ numWhole [49] = true := by decide
theorem ex_names : nmOk [⟨#[97]⟩] = true := by
  show nmGo [] [[97]] = true
  unfold nmGo
  rw [ex_valid]
  rfl
theorem one_check (m : Nat) : chkAt (m + 1) oneJ = true := by
  show (selfB oneJ && [].all (chkAt m)) = true
  have : selfB oneJ = true := by
    rw [self_leaf (by decide) (by decide)]
    show (true && true && leafB 3 [49]) = true
    unfold leafB
    rw [if_neg (by decide), if_neg (by decide), if_pos rfl, ex_num.1, ex_num.2]
    rfl
  rw [this]
  rfl
theorem ex_check : chkAt 12 exJ = true := by
  show (selfB exJ && [oneJ].all (chkAt 11)) = true
  have : selfB exJ = true := by
    rw [self_obj rfl]
    show (true && decide (1 = 1) && nmOk [⟨#[97]⟩]) = true
    rw [ex_names]
    rfl
  rw [this, List.all_cons, one_check]
  rfl
theorem ex_txt : txt 12 exJ = [123, 34, 97, 34, 58, 49, 125] := by
  rw [txt_obj rfl]
  show [123] ++ (pts (txt 11) true true [⟨#[97]⟩] [oneJ] ++ [125]) = _
  have e : txt 11 oneJ = [49] := by
    rw [txt_leaf (by decide) (by decide) (by decide) (by decide)]
    rfl
  have q : quoteB [97] = [34, 97, 34] := by
    unfold quoteB
    rw [ex_valid]
    rfl
  simp only [pts, e]
  show [123] ++ (([] ++ (quoteB [97] ++ [58] ++ ([49] ++ []))) ++ [125]) = _
  rw [q]
  rfl
theorem ex_text : textB exJ = [123, 34, 97, 34, 58, 49, 125] := by unfold textB; rw [ex_check, if_pos rfl, ex_txt]

theorem ex_rd {W : World} {B a b : Nat} (ha : a < B) (hb : b < B) (h0 : W.cell? ⟨a, 0, none⟩ = some (.string ⟨#[97]⟩)) (c0 : W.cell? ⟨b, 0, none⟩ = some (.int .i64 3)) (c1 : W.cell? ⟨b, 1, none⟩ = some (.string ⟨#[49]⟩)) (c2 : W.cell? ⟨b, 2, none⟩ = some (.slice none 0 0)) (c3 : W.cell? ⟨b, 3, none⟩ = some (.slice none 0 0)) :
    Rd W B 2 exJ (.agg #[.int .i64 8, .string ⟨#[]⟩, .slice (some ⟨a, 0, none⟩) 1 1, .slice (some ⟨b, 0, none⟩) 1 1]) := by
  refine ⟨_, 1, _, 1, rfl, ⟨by decide, by decide, by decide, Nat.le_refl _, Nat.le_refl _⟩, fun _ => ⟨a, 0, rfl, ha, fun j z hz => ?_⟩, fun _ => ⟨b, 0, rfl, hb, fun i z hz => ?_⟩⟩
  · match j, hz with
    | 0, hz =>
      obtain rfl : (⟨#[97]⟩ : ByteArray) = z := by simpa [exJ, JV.ns] using hz
      exact ⟨by decide, h0⟩
  · match i, hz with
    | 0, hz =>
      obtain rfl : oneJ = z := by simpa [exJ, JV.ps] using hz
      exact ⟨_, _, _, _, ⟨c0, c1, c2, c3⟩, ⟨none, 0, none, 0, rfl, ⟨by decide, by decide, by decide, Nat.le_refl _, Nat.le_refl _⟩, fun h => absurd h (by decide), fun h => absurd h (by decide)⟩⟩

theorem ex_nodes : ∀ y ∈ exJ.ps, nodes 1 y ≤ 2000000 := by
  intro y hy
  obtain rfl : y = oneJ := by simpa [exJ, JV.ps] using hy
  decide

theorem box4 {w : World} {k : Nat} {c0 c1 c2 c3 : Value} {T : TypeId} (h : w.heap[k]? = some (.cells #[c0, c1, c2, c3] T (0, 0))) :
    w.cell? ⟨k, 0, none⟩ = some c0 ∧ w.cell? ⟨k, 1, none⟩ = some c1 ∧ w.cell? ⟨k, 2, none⟩ = some c2 ∧ w.cell? ⟨k, 3, none⟩ = some c3 :=
  ⟨Lib.cell_of_heap h 0, Lib.cell_of_heap h 1, Lib.cell_of_heap h 2, Lib.cell_of_heap h 3⟩
theorem heap_lt {w : World} {k : Nat} {o : Obj} (h : w.heap[k]? = some o) : k < w.heap.size := (Array.getElem?_eq_some_iff.1 h).1


set_option maxHeartbeats 2000000 in
set_option maxRecDepth 100000 in
theorem awake_true (w : World) : Calls Tryd.prog 8 #[] w (TrueBelow w) := by
  go_enter Tryd.func8, Tryd.ntmps8
  go_wp2_with fail
  obtain ⟨W1, hW1⟩ : ∃ W1, W1 = ((w.alloc (.cells #[.string ⟨#[97]⟩] 9)).alloc (.cells #[.int .i64 3, .string ⟨#[49]⟩, .slice none 0 0, .slice none 0 0] 25)).alloc (.cells #[.int .i64 8, .string ⟨#[]⟩, .slice (some ⟨w.heap.size, 0, none⟩) 1 1, .slice (some ⟨w.heap.size + 1, 0, none⟩) 1 1] 25) := ⟨_, rfl⟩
  have hs1 : W1.heap.size = w.heap.size + 3 := by rw [hW1]; simp
  have hb1 : Below w.heap.size w W1 := by rw [hW1]; exact (((Below.refl _ w).alloc (Nat.le_refl _) _).alloc (by simp) _).alloc (by simp; omega) _
  have hR1 : Rd W1 (w.heap.size + 2) 2 exJ (.agg #[.int .i64 8, .string ⟨#[]⟩, .slice (some ⟨w.heap.size, 0, none⟩) 1 1, .slice (some ⟨w.heap.size + 1, 0, none⟩) 1 1]) := by
    rw [hW1]
    exact ex_rd (by omega) (by omega) (by go_simp) (by go_simp) (by go_simp) (by go_simp) (by go_simp)
  have hx1 : W1.heap[w.heap.size + 1 + 1]? = some (.cells #[.int .i64 8, .string ⟨#[]⟩, .slice (some ⟨w.heap.size, 0, none⟩) 1 1, .slice (some ⟨w.heap.size + 1, 0, none⟩) 1 1] 25 (0, 0)) := by
    rw [hW1]
    have := heap_alloc_new ((w.alloc (.cells #[.string ⟨#[97]⟩] 9)).alloc (.cells #[.int .i64 3, .string ⟨#[49]⟩, .slice none 0 0, .slice none 0 0] 25)) (.cells #[.int .i64 8, .string ⟨#[]⟩, .slice (some ⟨w.heap.size, 0, none⟩) 1 1, .slice (some ⟨w.heap.size + 1, 0, none⟩) 1 1] 25)
    simpa using this
  rw [← hW1]
  clear hW1
  refine (get_any (w.heap.size + 2) 1 exJ _ ⟨#[97]⟩ W1 (by omega) ex_nodes hR1).mono ?_
  rw [ex_get]
  rintro e w2 ⟨v2, rfl, hR2, b2⟩
  obtain ⟨an, cn, ap, cp, rfl⟩ := hR2.shape
  have hx2 := (b2.block _ (heap_lt hx1)).trans hx1
  obtain ⟨p0, p1, p2, p3⟩ := box4 hx2
  have hl2 := heap_lt hx2
  have hb2 : Below w.heap.size w w2 := hb1.trans (b2.mono (by omega))
  have hR2' : ∀ o, Rd (w2.alloc o) (w.heap.size + 2) 2 exJ (.agg #[.int .i64 8, .string ⟨#[]⟩, .slice (some ⟨w.heap.size, 0, none⟩) 1 1, .slice (some ⟨w.heap.size + 1, 0, none⟩) 1 1]) := fun o => (hR1.below (b2.mono (by omega))).below ((Below.refl _ _).alloc (by have := b2.size; omega) o)
  go_wp2_with fail
  refine (text_any (w.heap.size + 2) 2 exJ _ _ (by simp; omega) (hR2' _) (by rw [ex_txt]; simp)).mono ?_
  rw [ex_text]
  rintro e w3 ⟨rfl, b3⟩
  have hx3 := (b3.block _ (by simp; omega)).trans ((Below.heap_alloc w2 _ _ hl2).trans hx2)
  have hy3 := (b3.block w2.heap.size (by simp)).trans (heap_alloc_new w2 _)
  obtain ⟨q0, q1, q2, q3⟩ := box4 hx3
  obtain ⟨r0, r1, r2, r3⟩ := box4 hy3
  have hb3 : Below w.heap.size w w3 := (hb2.alloc hb2.size _).trans (b3.mono (by simp; have := hb2.size; omega))
  have hR3 : Rd w3 (w.heap.size + 2) 2 exJ (.agg #[.int .i64 8, .string ⟨#[]⟩, .slice (some ⟨w.heap.size, 0, none⟩) 1 1, .slice (some ⟨w.heap.size + 1, 0, none⟩) 1 1]) := (hR2' _).below (b3.mono (by simp; omega))
  clear p0 p1 p2 p3 hR2'
  have ho : (oneJ.s.toList == [49]) = true := by rw [Lib.toList_data]; rfl
  go_wp2_with fail
  refine (check_any (w.heap.size + 2) 2 exJ _ _ (by have := hb3.size; have h3 := heap_lt hx3; omega) hR3).mono ?_
  rw [ex_check]
  rintro e w4 ⟨rfl, b4⟩
  have hx4 := (b4.block _ (heap_lt hx3)).trans hx3
  obtain ⟨t0, t1, t2, t3⟩ := box4 hx4
  have hR4 := hR3.below (b4.mono (by have h3 := heap_lt hx3; omega))
  have hb4 : Below w.heap.size w w4 := hb3.trans (b4.mono hb3.size)
  go_wp2_with fail
  refine (same_any (w.heap.size + 2) 2 exJ exJ _ _ _ (by have h3 := heap_lt hx4; omega) (by omega) hR4 hR4).mono ?_
  rw [sameB_true rfl]
  rintro e w5 ⟨rfl, b5⟩
  go_wp2_with fail
  go_ret
  exact ⟨rfl, hb4.trans (b5.mono hb4.size)⟩

end Go.Proofs.YthmoadkkadlefaaDoor
