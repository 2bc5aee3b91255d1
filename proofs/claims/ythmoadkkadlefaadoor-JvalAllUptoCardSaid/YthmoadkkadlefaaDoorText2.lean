/-
  What jval.writeValue and jval.Text write.
-/
import Derived.Test.YthmoadkkadlefaaDoorText
namespace Go.Proofs.YthmoadkkadlefaaDoor
open Go.RowKit

/-- The builder and the value's box. -/
structure Sb (B b kb : Nat) (bx : Array Value) (l : List UInt8) (w W : World) : Prop where
  bld : Bld 53 B b [] (Lib.byteCells l) W
  bel : Below B w W
  kep : Lib.OthersKept 5 (some b) w W
  box : W.heap[kb]? = some (.cells bx 25 (0, 0))
  le : B ≤ W.heap.size
theorem Sb.write {B b kb : Nat} {bx : Array Value} {l l' : List UInt8} {w W W' : World} (h : Sb B b kb bx l w W) (hkb : kb ≠ b)
    (h1 : Bld 53 B b [] (Lib.byteCells l') W') (h2 : Below B W W') (h3 : Lib.OthersKept 5 (some b) W W') : Sb B b kb bx l' w W' :=
  ⟨h1, h.bel.trans h2, h.kep.trans h3, h3 kb _ h.box (by simpa using hkb) (cells_ne bx), Nat.le_trans h.le h2.size⟩
theorem Sb.below {B b kb : Nat} {bx : Array Value} {l : List UInt8} {w W W' : World} (h : Sb B b kb bx l w W) (hb : Below W.heap.size W W') : Sb B b kb bx l w W' :=
  ⟨h.bld.below hb, h.bel.trans (hb.mono h.le), h.kep.trans (kept_below hb), (hb.block kb (Array.getElem?_eq_some_iff.1 h.box).1).trans h.box, Nat.le_trans h.le hb.size⟩
theorem Sb.cell {B b kb : Nat} {bx : Array Value} {l : List UInt8} {w W : World} (h : Sb B b kb bx l w W) (j : Nat) : W.cell? ⟨kb, j, none⟩ = bx[j]? := Lib.cell_of_heap h.box j
theorem Sb.done {B b kb : Nat} {bx : Array Value} {l l' : List UInt8} {w W : World} (h : Sb B b kb bx l w W) (e : l = l') : Wrote B b l' w (.returned (.tuple #[])) W := by
  subst e; exact ⟨rfl, h.bld, h.bel, h.kep⟩

theorem txt_leaf {m : Nat} {x : JV} (h1 : x.k ≠ 1) (h5 : x.k ≠ 5) (h7 : x.k ≠ 7) (h8 : x.k ≠ 8) : txt (m + 1) x = vbl x.s := by
  unfold txt; rw [if_neg h1, if_neg h5, if_neg h7, if_neg h8]
theorem txt_null {m : Nat} {x : JV} (h1 : x.k = 1) : txt (m + 1) x = nullL := by unfold txt; rw [if_pos h1]
theorem txt_str {m : Nat} {x : JV} (h1 : x.k = 5) : txt (m + 1) x = quoteB (vbl x.s) := by unfold txt; rw [if_neg (by omega), if_pos h1]
theorem txt_list {m : Nat} {x : JV} (h1 : x.k = 7) : txt (m + 1) x = [91] ++ (pts (txt m) false true x.ns x.ps ++ [93]) := by unfold txt; rw [if_neg (by omega), if_neg (by omega), if_pos h1]
theorem txt_obj {m : Nat} {x : JV} (h1 : x.k = 8) : txt (m + 1) x = [123] ++ (pts (txt m) true true x.ns x.ps ++ [125]) := by unfold txt; rw [if_neg (by omega), if_neg (by omega), if_neg (by omega), if_pos h1]

set_option maxHeartbeats 2000000 in
set_option maxRecDepth 100000 in
theorem writeValue_step (m : Nat) (ih : WVal m) : WVal (m + 1) := by
  intro n x v w B b bs h hc hbld hlen hB
  have h0 := h
  match n, h with
  | n + 1, h =>
  obtain ⟨an, cn, ap, cp, rfl, ⟨z1, z2, z3, z4, z5⟩, hs, hr⟩ := h
  have HC : Hid (selfB x = true ∧ x.ps.all (chkAt m) = true) := Lib.hid (by simpa [chkAt] using hc)
  clear hc
  have hkb : w.heap.size ≠ b := by have := hbld.lt; omega
  have sb0 : Sb B b w.heap.size #[.int .i64 x.k, .string x.s, .slice an x.ns.length cn, .slice ap x.ps.length cp] bs w (w.alloc (.cells #[.int .i64 x.k, .string x.s, .slice an x.ns.length cn, .slice ap x.ps.length cp] 25)) :=
    ⟨hbld.alloc _, (Below.refl _ _).alloc hB _, (Lib.OthersKept.refl _ _ _).alloc _, heap_alloc_new _ _, by simp; omega⟩
  clear hs hr
  by_cases h1 : x.k = 1
  · have HX := Lib.hid (txt_null (m := m) h1)
    have e1 : (x.k == 1) = true := by simpa using h1
    clear h1
    have hl : bs.length + 4 ≤ 140737488355328 := by rw [HX.out] at hlen; exact hlen
    go_enter Tryd.func31, Tryd.ntmps31
    go_wp2_with fail
    refine (wStr ⟨#[110, 117, 108, 108]⟩ sb0.bld hl sb0.le).mono ?_
    rintro e w1 ⟨rfl, i1, i2, i3⟩
    have sb1 := sb0.write hkb i1 i2 i3
    go_wp2_with fail
    go_end0
    exact sb1.done (by rw [HX.out]; rfl)
  have e1 : (x.k == 1) = false := by simpa using h1
  by_cases h5 : x.k = 5
  · have HX := Lib.hid (txt_str (m := m) h5)
    have e5 : (x.k == 5) = true := by simpa using h5
    clear h1 h5
    go_enter Tryd.func31, Tryd.ntmps31
    go_wp2_with fail
    refine (quote_any x.s _ (by omega)).mono ?_
    rintro e w1 ⟨rfl, i1⟩
    have sb1 := sb0.below i1
    go_wp2_with fail
    refine (wStr _ sb1.bld (by rw [HX.out] at hlen; exact hlen) sb1.le).mono ?_
    rintro e w2 ⟨rfl, j1, j2, j3⟩
    have sb2 := sb1.write hkb j1 j2 j3
    go_wp2_with fail
    go_end0
    exact sb2.done (by rw [HX.out]; rfl)
  have e5 : (x.k == 5) = false := by simpa using h5
  by_cases h7 : x.k = 7
  · have HX := Lib.hid (txt_list (m := m) h7)
    have e7 : (x.k == 7) = true := by simpa using h7
    have e8 : (x.k == 8) = false := by simp; omega
    have hl : bs.length + (1 + ((pts (txt m) false true x.ns x.ps).length + 1)) ≤ 140737488355328 := by rw [HX.out] at hlen; simp at hlen; omega
    clear h1 h5 h7
    go_enter Tryd.func31, Tryd.ntmps31
    go_wp2_with fail
    refine (wByte 91 91 rfl sb0.bld (by omega) sb0.le).mono ?_
    rintro e w1 ⟨rfl, i1, i2, i3⟩
    have sb1 := sb0.write hkb i1 i2 i3
    clear i1 i2 i3
    have c0 : w1.cell? ⟨w.heap.size, 0, none⟩ = some (.int .i64 x.k) := sb1.cell 0
    have c1 : w1.cell? ⟨w.heap.size, 1, none⟩ = some (.string x.s) := sb1.cell 1
    have c2 : w1.cell? ⟨w.heap.size, 2, none⟩ = some (.slice an x.ns.length cn) := sb1.cell 2
    have c3 : w1.cell? ⟨w.heap.size, 3, none⟩ = some (.slice ap x.ps.length cp) := sb1.cell 3
    go_wp2_with fail
    refine (writeParts_any m ih false n x _ w1 B b _ (h0.below sb1.bel) e8 (fun h => by cases h) HC.out.2 sb1.bld (by simp only [List.length_append, List.length_cons, List.length_nil]; omega) sb1.le).mono ?_
    rintro e w2 ⟨rfl, i1, i2, i3⟩
    have sb2 := sb1.write hkb i1 i2 i3
    clear i1 i2 i3
    go_wp2_with fail
    refine (wByte 93 93 rfl sb2.bld (by simp only [List.length_append, List.length_cons, List.length_nil]; omega) sb2.le).mono ?_
    rintro e w3 ⟨rfl, i1, i2, i3⟩
    have sb3 := sb2.write hkb i1 i2 i3
    go_wp2_with fail
    go_end0
    exact sb3.done (by rw [HX.out]; simp)
  have e7 : (x.k == 7) = false := by simpa using h7
  by_cases h8 : x.k = 8
  · have HX := Lib.hid (txt_obj (m := m) h8)
    have e8 : (x.k == 8) = true := by simpa using h8
    have HNS : Hid (x.ns.length = x.ps.length) := Lib.hid (by
      have := HC.out.1
      rw [self_obj h8] at this
      simp only [Bool.and_eq_true, decide_eq_true_eq] at this
      exact this.1.2)
    have hl : bs.length + (1 + ((pts (txt m) true true x.ns x.ps).length + 1)) ≤ 140737488355328 := by rw [HX.out] at hlen; simp at hlen; omega
    clear h1 h5 h7 h8
    go_enter Tryd.func31, Tryd.ntmps31
    go_wp2_with fail
    refine (wByte 123 123 rfl sb0.bld (by omega) sb0.le).mono ?_
    rintro e w1 ⟨rfl, i1, i2, i3⟩
    have sb1 := sb0.write hkb i1 i2 i3
    clear i1 i2 i3
    have c0 : w1.cell? ⟨w.heap.size, 0, none⟩ = some (.int .i64 x.k) := sb1.cell 0
    have c1 : w1.cell? ⟨w.heap.size, 1, none⟩ = some (.string x.s) := sb1.cell 1
    have c2 : w1.cell? ⟨w.heap.size, 2, none⟩ = some (.slice an x.ns.length cn) := sb1.cell 2
    have c3 : w1.cell? ⟨w.heap.size, 3, none⟩ = some (.slice ap x.ps.length cp) := sb1.cell 3
    go_wp2_with fail
    refine (writeParts_any m ih true n x _ w1 B b _ (h0.below sb1.bel) e8 (fun _ => HNS.out) HC.out.2 sb1.bld (by simp only [List.length_append, List.length_cons, List.length_nil]; omega) sb1.le).mono ?_
    rintro e w2 ⟨rfl, i1, i2, i3⟩
    have sb2 := sb1.write hkb i1 i2 i3
    clear i1 i2 i3
    go_wp2_with fail
    refine (wByte 125 125 rfl sb2.bld (by simp only [List.length_append, List.length_cons, List.length_nil]; omega) sb2.le).mono ?_
    rintro e w3 ⟨rfl, i1, i2, i3⟩
    have sb3 := sb2.write hkb i1 i2 i3
    go_wp2_with fail
    go_end0
    exact sb3.done (by rw [HX.out]; simp)
  have e8 : (x.k == 8) = false := by simpa using h8
  have HX := Lib.hid (txt_leaf (m := m) h1 h5 h7 h8)
  clear h1 h5 h7 h8
  go_enter Tryd.func31, Tryd.ntmps31
  go_wp2_with fail
  refine (wStr _ sb0.bld (by rw [HX.out] at hlen; exact hlen) sb0.le).mono ?_
  rintro e w1 ⟨rfl, i1, i2, i3⟩
  have sb1 := sb0.write hkb i1 i2 i3
  go_wp2_with fail
  go_end0
  exact sb1.done (by rw [HX.out])

theorem writeValue_any : ∀ m, WVal m
  | 0 => fun _ _ _ _ _ _ _ _ h => by cases h
  | m + 1 => writeValue_step m (writeValue_any m)

/-- Text: empty, if it is no value of JSON. -/
def textB (x : JV) : List UInt8 := if chkAt 12 x then txt 12 x else []

set_option maxHeartbeats 1000000 in
set_option maxRecDepth 100000 in
theorem text_any (B n : Nat) (x : JV) (v : Value) (w : World) (hB : B ≤ w.heap.size) (h : Rd w B n x v) (hlen : (txt 12 x).length ≤ 140737488355328) :
    Calls Tryd.prog 15 #[v] w (StrBelow w (textB x)) := by
  have hc := fun W (hb : Below w.heap.size w W) => check_any B n x v W (Nat.le_trans hB hb.size) (h.below (hb.mono hB))
  have hbA : ∀ o, Below w.heap.size w (w.alloc o) := fun o => (Below.refl _ w).alloc (Nat.le_refl _) o
  obtain ⟨an, cn, ap, cp, rfl⟩ := h.shape
  cases hk : chkAt 12 x with
  | false =>
    have HT := Lib.hid (show textB x = [] by unfold textB; rw [hk]; rfl)
    rw [hk] at hc
    go_enter Tryd.func15, Tryd.ntmps15
    go_wp2_with ((go_at_call 13); (refine (hc _ (hbA _)).mono ?_); rintro e w2 ⟨rfl, b2⟩)
    go_ret
    exact strBelow_mk (l := []) HT.out.symm ((hbA _).trans (b2.mono (by simp)))
  | true =>
    have HT := Lib.hid (show textB x = txt 12 x by unfold textB; rw [hk]; rfl)
    have HK := Lib.hid hk
    rw [hk] at hc
    clear hk
    go_enter Tryd.func15, Tryd.ntmps15
    go_wp2_with fail
    refine (hc _ (hbA _)).mono ?_
    rintro e w1 ⟨rfl, b1⟩
    have hb1 : Below w.heap.size w w1 := (hbA _).trans (b1.mono (by simp))
    have hz1 := b1.size
    simp only [World.size_alloc] at hz1
    have hbox : w1.heap[w.heap.size]? = some (.cells #[.int .i64 x.k, .string x.s, .slice an x.ns.length cn, .slice ap x.ps.length cp] 25 (0, 0)) := (b1.block _ (by simp)).trans (heap_alloc_new _ _)
    have c0 : w1.cell? ⟨w.heap.size, 0, none⟩ = some (.int .i64 x.k) := Lib.cell_of_heap hbox 0
    have c1 : w1.cell? ⟨w.heap.size, 1, none⟩ = some (.string x.s) := Lib.cell_of_heap hbox 1
    have c2 : w1.cell? ⟨w.heap.size, 2, none⟩ = some (.slice an x.ns.length cn) := Lib.cell_of_heap hbox 2
    have c3 : w1.cell? ⟨w.heap.size, 3, none⟩ = some (.slice ap x.ps.length cp) := Lib.cell_of_heap hbox 3
    clear hbox
    have hlt1 : w.heap.size < w1.heap.size := by omega
    have hR1 : Rd (w1.alloc (.cells #[.pointer none, .slice none 0 0] 53)) w1.heap.size n x (.agg #[.int .i64 x.k, .string x.s, .slice an x.ns.length cn, .slice ap x.ps.length cp]) :=
      ((h.below (hb1.mono hB)).more (by have := hb1.size; omega)).below ((Below.refl _ _).alloc (Nat.le_refl _) _)
    go_wp2_with fail
    refine (writeValue_any 12 n x _ _ w1.heap.size w1.heap.size [] hR1 HK.out (Bld.fresh _ _ _) (by simpa using hlen) (by simp)).mono ?_
    rintro e w2 ⟨rfl, i1, i2, i3⟩
    have hz2 := i2.size
    simp only [World.size_alloc] at hz2
    go_wp2_with fail
    refine (string_any _ i1 (by omega)).mono ?_
    rintro e w3 ⟨rfl, i4⟩
    go_wp2_with fail
    go_ret
    exact strBelow_mk HT.out.symm (((hb1.alloc hb1.size _).trans (i2.mono hb1.size)).trans (i4.mono hb1.size))

end Go.Proofs.YthmoadkkadlefaaDoor
