/-
  jread's reader: numbers; names.
-/
import Derived.Test.YtbcenaljaoejkaaDoorJr2
import Derived.Maps.OwnSet
namespace Go.Proofs.YtbcenaljaoejkaaDoor
open Go.RowKit

theorem slice_from (s : ByteArray) (a : Nat) (h : a ≤ s.size) (w : World) : (Instr.slice 9 (.string s) (some (.int .i64 a)) none none).run Tryd.prog w = .ok (.string (s.extract a s.size)) w := by
  have e1 : ¬ ((s.size : Int) < a) := by omega
  go_simp

theorem numSigns_ascii : ∀ (j : Nat) b, numSigns.data.toList[j]? = some b → b.toNat < 128 := ascii_of_all (by decide)

/-- The box of a result, as it is laid. -/
structure Bx (W : World) (B : Nat) : Prop where
  r0 : W.cell? ⟨B, 0, none⟩ = some (.int .i64 0)
  r1 : W.cell? ⟨B, 1, none⟩ = some (.string ⟨#[]⟩)
  r2 : W.cell? ⟨B, 2, none⟩ = some (.slice none 0 0)
  r3 : W.cell? ⟨B, 3, none⟩ = some (.slice none 0 0)
  rf : ∀ j, W.frozen? ⟨B, j, none⟩ = false
theorem Bx.new (w : World) : Bx (w.alloc (.cells #[.int .i64 0, .string ⟨#[]⟩, .slice none 0 0, .slice none 0 0] 26)) w.heap.size := by
  have hb : (w.alloc (.cells #[.int .i64 0, .string ⟨#[]⟩, .slice none 0 0, .slice none 0 0] 26)).heap[w.heap.size]? = some (.cells #[.int .i64 0, .string ⟨#[]⟩, .slice none 0 0, .slice none 0 0] 26 (0, 0)) := heap_alloc_new _ _
  exact ⟨Lib.cell_of_heap hb 0, Lib.cell_of_heap hb 1, Lib.cell_of_heap hb 2, Lib.cell_of_heap hb 3, fun j => by go_simp⟩
theorem Bx.keep {W W' : World} {B : Nat} (h : Bx W B) (hb : W'.heap[B]? = W.heap[B]?) : Bx W' B := by
  have c : ∀ o, W'.cell? ⟨B, o, none⟩ = W.cell? ⟨B, o, none⟩ := fun o => World.cell?_of_block (a := ⟨B, o, none⟩) hb
  exact ⟨(c 0).trans h.r0, (c 1).trans h.r1, (c 2).trans h.r2, (c 3).trans h.r3, fun j => (World.frozen?_of_block (a := ⟨B, j, none⟩) hb).trans (h.rf j)⟩
theorem Bx.lt {W : World} {B : Nat} (h : Bx W B) : B < W.heap.size := by
  have h0 := h.r0
  unfold World.cell? at h0
  by_cases hl : B < W.heap.size
  · exact hl
  · simp only [Array.getElem?_eq_none (show W.heap.size ≤ B by omega)] at h0
    cases h0
theorem Aw.four {R n B : Nat} {a W : World} (h : Aw R n a W) (hB : n ≤ B) (c0 c1 c2 c3 : Value) : Aw R n a ((((W.setCell ⟨B, 0, none⟩ c0).setCell ⟨B, 1, none⟩ c1).setCell ⟨B, 2, none⟩ c2).setCell ⟨B, 3, none⟩ c3) :=
  (((h.setNew (q := ⟨B, 0, none⟩) hB c0).setNew (q := ⟨B, 1, none⟩) hB c1).setNew (q := ⟨B, 2, none⟩) hB c2).setNew (q := ⟨B, 3, none⟩) hB c3
theorem heap_four (W : World) (B : Nat) (c0 c1 c2 c3 : Value) (k : Nat) (h : k ≠ B) : ((((W.setCell ⟨B, 0, none⟩ c0).setCell ⟨B, 1, none⟩ c1).setCell ⟨B, 2, none⟩ c2).setCell ⟨B, 3, none⟩ c3).heap[k]? = W.heap[k]? := by
  rw [Below.heap_setCell _ _ _ _ h, Below.heap_setCell _ _ _ _ h, Below.heap_setCell _ _ _ _ h, Below.heap_setCell _ _ _ _ h]
theorem size_four (W : World) (B : Nat) (c0 c1 c2 c3 : Value) : ((((W.setCell ⟨B, 0, none⟩ c0).setCell ⟨B, 1, none⟩ c1).setCell ⟨B, 2, none⟩ c2).setCell ⟨B, 3, none⟩ c3).heap.size = W.heap.size := by simp [World.setCell]
theorem Rdr.four {W : World} {R : Nat} {s : ByteArray} {p : Nat} {d t : Bool} (h : Rdr W R s p d t) {B : Nat} (hB : R ≠ B) (c0 c1 c2 c3 : Value) : Rdr ((((W.setCell ⟨B, 0, none⟩ c0).setCell ⟨B, 1, none⟩ c1).setCell ⟨B, 2, none⟩ c2).setCell ⟨B, 3, none⟩ c3) R s p d t :=
  h.keep (heap_four W B c0 c1 c2 c3 R hB)

def leaf (k : Int) (s : ByteArray) : Value := .agg #[.int .i64 k, .string s, .slice none 0 0, .slice none 0 0]

def NumR (R : Nat) (s : ByteArray) (d t : Bool) (w : World) (l : List UInt8) (e : Ending) (w' : World) : Prop :=
  if numOk (nt l) then e = .returned (leaf (if numWhole (nt l) then 3 else 4) (ofL (nt l))) ∧ Now R s d t w (nd l) w' else Bad R w e w'

set_option maxHeartbeats 4000000 in
set_option maxRecDepth 100000 in
theorem jnumber_any (R : Nat) (s : ByteArray) (p : Nat) (d t : Bool) (w : World) (h : Rdr w R s p d t) (hp : p ≤ s.size) (hs : s.size ≤ 4000) :
    Calls Tryd.prog 45 #[.pointer (some ⟨R, 0, none⟩)] w (NumR R s d t w (s.data.toList.drop p)) := by
  have HR := Lib.hid h
  have hlt := h.lt
  obtain ⟨c0, c1, c2, c3, fz⟩ := h
  have hnd := nd_le (s.data.toList.drop p)
  rw [len_drop] at hnd
  obtain ⟨E, hE⟩ : ∃ E, E + (nd (s.data.toList.drop p)).length = s.size := ⟨s.size - (nd (s.data.toList.drop p)).length, by omega⟩
  have hpE : p ≤ E := by omega
  have hEs : E ≤ s.size := by omega
  have HNT := Lib.hid (show (s.extract p E).data.toList = nt (s.data.toList.drop p) by
    unfold nt
    rw [ext_list, len_drop]
    congr 1
    omega)
  have HND := Lib.hid (show s.data.toList.drop E = nd (s.data.toList.drop p) by
    have h1 : nd (s.data.toList.drop p) <:+ s.data.toList := (List.dropWhile_suffix _).trans (List.drop_suffix _ _)
    have h2 := List.suffix_iff_eq_drop.1 h1
    rw [h2]
    congr 1
    have h3 : s.data.toList.length = s.size := rfl
    rw [h3]
    omega)
  have hsl1 := slice_from s p hp
  have hsl2 : ∀ W, (Instr.slice 9 (.string s) (some (.int .i64 p)) (some (.int .i64 ((s.size : Int) - ((nd (s.data.toList.drop p)).length : Int)))) none).run Tryd.prog W = .ok (.string (s.extract p E)) W := fun W => slice_two s p E hpE hEs _ (by omega) W
  have htr : ∀ W, Calls Tryd.prog 55 #[.string (s.extract p s.size), .string ⟨#[43, 45, 46, 48, 49, 50, 51, 52, 53, 54, 55, 56, 57, 101, 69]⟩] W fun e w' => e = .returned (.string ⟨(nd (s.data.toList.drop p)).toArray⟩) ∧ Below W.heap.size W w' := fun W => by
    have := Tryd.strings_TrimLeft (s.extract p s.size) numSigns W (by decide) numSigns_ascii
    rw [ext_all] at this
    exact this
  have hcl : ∀ W, Calls Tryd.prog 56 #[.string (s.extract p E)] W fun e w' => e = .returned (.string (s.extract p E)) ∧ Below W.heap.size W w' := fun W => clone_any _ W (by simp; omega)
  have hnum : ∀ W, Calls Tryd.prog 57 #[.string (s.extract p E)] W (NumIs (nt (s.data.toList.drop p)) W) := fun W => by
    have := number_any (s.extract p E) W
    rw [HNT.out] at this
    exact this
  have HX := Lib.hid (show s.extract p E = ofL (nt (s.data.toList.drop p)) by rw [← HNT.out]; exact (of_list _).symm)
  generalize s.data.toList.drop p = l at *
  generalize s.extract p E = x at *
  have hln : (⟨(nd l).toArray⟩ : ByteArray).size = (nd l).length := rfl
  have HE := Lib.hid hE
  clear hE
  go_enter Tryd.func45, Tryd.ntmps45
  go_wp2_with fail
  go_region_with ((go_at_call 55); (with_reducible refine (htr _).mono ?_); rintro e w1 ⟨rfl, b1⟩)
  all_goals
    have hz1 : w.heap.size < w1.heap.size := by have := b1.size; simp at this; omega
    have hr1 : Rdr w1 R s p d t := (HR.out.alloc (.cells #[.int .i64 0, .string ⟨#[]⟩, .slice none 0 0, .slice none 0 0] 26)).ofDrew b1
    have hx1 : Bx w1 w.heap.size := (Bx.new w).keep (b1.block w.heap.size (by simp))
    have ha1 : Aw R w.heap.size w w1 := ((Aw.refl R w.heap.size w).alloc (Nat.le_refl _) _).trans ((Aw.ofDrew b1).mono (by simp))
    have HR1 := Lib.hid hr1
    have HB1 := Lib.hid hx1
    obtain ⟨g0, g1, g2, g3, gz⟩ := hr1
    clear b1 hx1
    go_wp2_with fail
    go_region_with ((go_at_call 56); (with_reducible refine (hcl _).mono ?_); rintro e w2 ⟨rfl, b2⟩)
    all_goals
      have hr2 : Rdr w2 R s p d t := HR1.out.ofDrew b2
      have hx2 : Bx w2 w.heap.size := HB1.out.keep (b2.block w.heap.size hz1)
      have ha2 : Aw R w.heap.size w w2 := ha1.trans ((Aw.ofDrew b2).mono (by omega))
      have hz2 : w.heap.size < w2.heap.size := by have := b2.size; simp at this; omega
      clear b2
      go_wp2_with fail
      refine (hnum _).mono ?_
      rintro e w3 ⟨rfl, b3⟩
      have hr3 : Rdr w3 R s p d t := hr2.below b3 hr2.lt
      have hx3 : Bx w3 w.heap.size := hx2.keep (b3.block w.heap.size hz2)
      have ha3 : Aw R w.heap.size w w3 := ha2.trans ((Aw.of b3).mono (by omega))
      have HR3 := Lib.hid hr3
      obtain ⟨k0, k1, k2, k3, kz⟩ := hr3
      obtain ⟨q0, q1, q2, q3, qz⟩ := hx3
      clear b3 hr2 hx2 g0 g1 g2 g3 gz
      cases ho : numOk (nt l) with
      | false =>
        go_wp2_with fail
        refine (fail_any 2 _).mono ?_
        rintro e w4 ⟨rfl, rfl⟩
        refine ⟨rfl, ?_⟩
        unfold NumR
        rw [if_neg (by rw [ho]; decide)]
        exact ⟨rfl, ha3⟩
      | true =>
        have hne : R ≠ w.heap.size := by omega
        have hne2 : ¬ w.heap.size = R := by omega
        cases hw : numWhole (nt l) with
        | false =>
          go_wp2_with fail
          refine bodyPost_ret (v := leaf 4 x) (by simp [results, Tryd.results45, go_sem, q0, q1, q2, q3, leaf]) rfl ?_
          unfold NumR
          rw [if_pos ho, hw, if_neg (by decide), ← HX.out]
          exact ⟨rfl, E, hEs, HND.out, (HR3.out.setAtI (by have := HE.out; omega)).four hne _ _ _ _, (ha3.set _).four (Nat.le_refl _) _ _ _ _⟩
        | true =>
          go_wp2_with fail
          refine bodyPost_ret (v := leaf 3 x) (by simp [results, Tryd.results45, go_sem, q0, q1, q2, q3, leaf]) rfl ?_
          unfold NumR
          rw [if_pos ho, hw, if_pos rfl, ← HX.out]
          exact ⟨rfl, E, hEs, HND.out, (HR3.out.setAtI (by have := HE.out; omega)).four hne _ _ _ _, (ha3.set _).four (Nat.le_refl _) _ _ _ _⟩

end Go.Proofs.YtbcenaljaoejkaaDoor
