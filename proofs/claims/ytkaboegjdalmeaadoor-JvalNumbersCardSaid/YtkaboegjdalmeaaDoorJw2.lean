/-
  JvalWrong's walk.
-/
import Derived.Test.YtkaboegjdalmeaaDoorJw1
namespace Go.Proofs.YtkaboegjdalmeaaDoor
open Go.RowKit

theorem ints_at_of {w : World} {a : Option Addr} {zs : List Int} (hr : 0 < zs.length → ∃ b off, a = some ⟨b, off, none⟩ ∧ ∀ i z, zs[i]? = some z → w.cell? ⟨b, off + i, none⟩ = some (.int .i64 z)) : IntsAt w w.heap.size a zs := fun hp => by
  obtain ⟨b, off, e, hc⟩ := hr hp
  exact ⟨b, off, e, World.block_lt_of_cell? w _ (hc 0 _ (List.getElem?_eq_getElem hp)), hc⟩

set_option maxHeartbeats 2000000 in
set_option maxRecDepth 100000 in
theorem jvalWrong_long (a : Option Addr) (len cap : Nat) (how : Int) (w : World) (h30 : 30 < len) :
    Calls Tryd.prog 5 #[.slice a len cap, .int .i64 how] w (TrueBelow w) := by
  have d0 : decide (30 < len) = true := by simpa using h30
  have d1 : decide ((30 : Int) < len) = true := by simp; omega
  go_enter Tryd.func5, Tryd.ntmps5
  go_wp2_with ((go_at_call 8); (with_reducible refine (awake_true _).mono ?_); rintro e w' ⟨rfl, b1⟩)
  go_ret
  exact ⟨rfl, b1⟩

set_option maxHeartbeats 10000000 in
set_option maxRecDepth 100000 in
theorem jvalWrong_short (a : Option Addr) (cap : Nat) (zs : List Int) (how : Int) (r : Int) (w : World) (h30 : zs.length ≤ 30) (hz : IntsAt w w.heap.size a zs) (hr0 : 0 ≤ r) (hr9 : r < 9)
    (hp : ∀ W, Calls Tryd.prog 20 #[.int .i64 how, .int .i64 9] W fun e w' => e = .returned (.int .i64 r) ∧ W = w') :
    Calls Tryd.prog 5 #[.slice a zs.length cap, .int .i64 how] w (TrueBelow w) := by
  have d0 : decide (30 < zs.length) = false := by simpa using h30
  have d1 : decide ((30 : Int) < zs.length) = false := by simp; omega
  have hma : Calls Tryd.prog 19 #[.slice a zs.length cap, .int .i64 0, .int .i64 5] w (MadeIs 5 w) := made_any 5 (by omega) (by omega) w.heap.size a cap zs 0 w (by omega) (by omega) (Nat.le_refl _) hz
  clear hz
  go_enter Tryd.func5, Tryd.ntmps5
  go_upto_region 4 with ((go_at_call 19); (with_reducible refine hma.mono ?_); rintro e w1 ⟨x, v, at1, rfl, _, hR, hck, _, hb1⟩; obtain ⟨an, cn, ap, cp, rfl⟩ := hR.shape)
  have hrd : Rd w1 w1.heap.size 5 x (.agg #[.int .i64 x.k, .string x.s, .slice an x.ns.length cn, .slice ap x.ps.length cp]) := hR.toB fun b hd => hd.2
  have hc1 : ∀ W, Below w1.heap.size w1 W → Calls Tryd.prog 13 #[.agg #[.int .i64 x.k, .string x.s, .slice an x.ns.length cn, .slice ap x.ps.length cp]] W (BoolBelow true W) := fun W hb => by
    have := check_any w1.heap.size 5 x _ W hb.size (hrd.below hb)
    rwa [chk_up 5 12 x (by omega) hck] at this
  have hbA : ∀ o, Below w1.heap.size w1 (w1.alloc o) := fun o => (Below.refl _ w1).alloc (Nat.le_refl _) o
  go_upto_region 6 with ((go_at_call 13); (with_reducible refine (hc1 _ (hbA _)).mono ?_); rintro e w2 ⟨rfl, b2⟩)
  have q : ∀ j, w2.cell? ⟨w1.heap.size, j, none⟩ = (#[Value.int .i64 x.k, .string x.s, .slice an x.ns.length cn, .slice ap x.ps.length cp] : Array Value)[j]? := fun j => by
    rw [b2.cell (p := ⟨w1.heap.size, j, none⟩) (by simp)]
    go_simp
  have q0 := q 0
  have q1 := q 1
  have q2 := q 2
  have q3 := q 3
  have hz2 : w1.heap.size < w2.heap.size := by have := b2.size; simp at this; omega
  have B2 : Below w1.heap.size w1 w2 := (hbA _).trans (b2.mono (by simp))
  simp at q0 q1 q2 q3
  clear q
  go_upto_region 7 with fail
  obtain ⟨W3, hW3⟩ : ∃ W3, W3 = (((w2.alloc (.cells #[.string ⟨#[97]⟩, .string ⟨#[98]⟩] 9)).alloc (.cells #[.int .i64 x.k, .string x.s, .slice an x.ns.length cn, .slice ap x.ps.length cp, .int .i64 1, .string ⟨#[]⟩, .slice none 0 0, .slice none 0 0] 25)).alloc (.cells #[.int .i64 8, .string ⟨#[]⟩, .slice (some ⟨w2.heap.size, 0, none⟩) 2 2, .slice (some ⟨w2.heap.size + 1, 0, none⟩) 2 2] 25)) := ⟨_, rfl⟩
  rw [← hW3]
  have B3 : Below w2.heap.size w2 W3 := by
    rw [hW3]
    exact (((Below.refl _ w2).alloc (Nat.le_refl _) _).alloc (by simp) _).alloc (by simp; omega) _
  have hs3 : W3.heap.size = w2.heap.size + 3 := by rw [hW3]; simp
  have cN : ∀ j, W3.cell? ⟨w2.heap.size, j, none⟩ = (#[Value.string ⟨#[97]⟩, .string ⟨#[98]⟩] : Array Value)[j]? := fun j => by rw [hW3]; go_simp
  have cL : ∀ j, W3.cell? ⟨w2.heap.size + 1, j, none⟩ = (#[Value.int .i64 x.k, .string x.s, .slice an x.ns.length cn, .slice ap x.ps.length cp, .int .i64 1, .string ⟨#[]⟩, .slice none 0 0, .slice none 0 0] : Array Value)[j]? := fun j => by rw [hW3]; go_simp
  have cX : ∀ j, W3.cell? ⟨w2.heap.size + 1 + 1, j, none⟩ = (#[Value.int .i64 8, .string ⟨#[]⟩, .slice (some ⟨w2.heap.size, 0, none⟩) 2 2, .slice (some ⟨w2.heap.size + 1, 0, none⟩) 2 2] : Array Value)[j]? := fun j => by rw [hW3]; go_simp
  have gN : ∀ j, W3.frozen? ⟨w2.heap.size, j, none⟩ = false := fun j => by rw [hW3]; go_simp
  have gL : ∀ j, W3.frozen? ⟨w2.heap.size + 1, j, none⟩ = false := fun j => by rw [hW3]; go_simp
  have gX : ∀ j, W3.frozen? ⟨w2.heap.size + 1 + 1, j, none⟩ = false := fun j => by rw [hW3]; go_simp
  have hx3 : XW W3 (w2.heap.size) (w2.heap.size + 1) (w2.heap.size + 1 + 1) 8 ⟨#[]⟩ ⟨#[97]⟩ ⟨#[98]⟩ 2 (.int .i64 x.k) (.string x.s) (.slice an x.ns.length cn) (.slice ap x.ps.length cp) 1 ⟨#[]⟩ x :=
    ⟨cX 0, cX 1, cX 2, cX 3, cN 0, cN 1, cL 0, cL 1, cL 2, cL 3, cL 4, cL 5, cL 6, cL 7, by omega, by omega, by omega, gN, gL, gX,
      RdD.step (fun b hd => ⟨by have := hd.2; omega, by have := hd.2; omega, by have := hd.2; omega, by have := hd.2; omega⟩) (fun b o hd => (B2.trans (B3.mono (by omega))).cell (p := ⟨b, o, none⟩) hd.2) hR, by omega, by omega, by omega⟩
  have hR3 := hx3.read [⟨#[97]⟩, ⟨#[98]⟩] rfl (fun j t h => h) ⟨by decide, by decide, by decide, by decide⟩
  have hcX : Calls Tryd.prog 13 #[.agg #[.int .i64 8, .string ⟨#[]⟩, .slice (some ⟨w2.heap.size, 0, none⟩) 2 2, .slice (some ⟨w2.heap.size + 1, 0, none⟩) 2 2]] W3 (BoolBelow true W3) := by
    have := check_any W3.heap.size 6 _ _ W3 (Nat.le_refl _) hR3
    rwa [ok_x x (chk_up 5 11 x (by omega) hck)] at this
  have x0 := hx3.x0
  have x1 := hx3.x1
  have x2 := hx3.x2
  have x3 := hx3.x3
  have hw2 : w.heap.size ≤ w2.heap.size := Nat.le_trans hb1.size (by omega)
  have BW3 : Below w.heap.size w W3 := (hb1.trans (B2.mono hb1.size)).trans (B3.mono hw2)
  have HX3 := Lib.hid hx3
  clear hx3 hR3 hR hrd hc1 q0 q1 q2 q3 cN cL cX gN gL gX hW3 B2 B3 b2 hbA hma
  go_upto_region 9 with ((go_at_call 13); (with_reducible refine hcX.mono ?_); rintro e w4 ⟨rfl, b4⟩)
  have hx4 := HX3.out.grow b4
  have BW4 : Below w.heap.size w w4 := BW3.trans (b4.mono BW3.size)
  clear x0 x1 x2 x3 HX3 hcX BW3
  obtain ⟨x0, x1, x2, x3, m0, m1, l0, l1, l2, l3, l4, l5, l6, l7, tN, tL, tX, fN, fL, fX, _, _, _, _⟩ := id hx4
  have hrr : r = 0 ∨ r = 1 ∨ r = 2 ∨ r = 3 ∨ r = 4 ∨ r = 5 ∨ r = 6 ∨ r = 7 ∨ r = 8 := by omega
  clear hr0 hr9
  -- TURNS
  rcases hrr with rfl | rfl | rfl | rfl | rfl | rfl | rfl | rfl | rfl
  · go_upto_region 27 with ((go_at_call 20); (with_reducible refine (hp _).mono ?_); rintro e w' ⟨rfl, rfl⟩)
    have hx5 : XW (w4.setCell ⟨w2.heap.size, 1, none⟩ (.string ⟨#[97]⟩)) (w2.heap.size) (w2.heap.size + 1) (w2.heap.size + 1 + 1) 8 ⟨#[]⟩ ⟨#[97]⟩ ⟨#[97]⟩ 2 (.int .i64 x.k) (.string x.s) (.slice an x.ns.length cn) (.slice ap x.ps.length cp) 1 ⟨#[]⟩ x := (hx4.setN1 ⟨#[97]⟩)
    have BW5 : Below w.heap.size w (w4.setCell ⟨w2.heap.size, 1, none⟩ (.string ⟨#[97]⟩)) := (BW4.setCell (p := ⟨w2.heap.size, 1, none⟩) (by show w.heap.size ≤ w2.heap.size; omega) _)
    clear x0 x1 x2 x3 m0 m1 l4 l5 l6 l7 fN fL fX tN tL tX hp BW4
    generalize (w4.setCell ⟨w2.heap.size, 1, none⟩ (.string ⟨#[97]⟩)) = W5 at *
    have hR5 := hx5.read [⟨#[97]⟩, ⟨#[97]⟩] rfl (fun j t h => by first | exact h | (match j, h with | 0, h => exact h)) ⟨by decide, by decide, by decide, by decide⟩
    have hcF : Calls Tryd.prog 13 #[.agg #[.int .i64 8, .string ⟨#[]⟩, .slice (some ⟨w2.heap.size, 0, none⟩) 2 2, .slice (some ⟨w2.heap.size + 1, 0, none⟩) 2 2]] W5 (BoolBelow false W5) := by
      have := check_any W5.heap.size 6 _ _ W5 (Nat.le_refl _) hR5
      rwa [no_0 x] at this
    have htF : ∀ W, Below W5.heap.size W5 W → Calls Tryd.prog 15 #[.agg #[.int .i64 8, .string ⟨#[]⟩, .slice (some ⟨w2.heap.size, 0, none⟩) 2 2, .slice (some ⟨w2.heap.size + 1, 0, none⟩) 2 2]] W (StrBelow W []) := fun W hb => text_none W5.heap.size 6 _ _ W hb.size (hR5.below hb) (no_0 x)
    have x0 := hx5.x0
    have x1 := hx5.x1
    have x2 := hx5.x2
    have x3 := hx5.x3
    have HX5 := Lib.hid hx5
    clear hx5 hx4 hR5
    go_wp2_with (first | ((go_at_call 13); (with_reducible refine hcF.mono ?_); rintro e w6 ⟨rfl, b6⟩; have hx6 := HX5.out.grow b6; have y0 := hx6.x0; have y1 := hx6.x1; have y2 := hx6.x2; have y3 := hx6.x3; clear hx6) | ((go_at_call 15); (with_reducible refine (htF _ b6).mono ?_); rintro e w7 ⟨rfl, b7⟩) | ((go_at_call 8); (with_reducible refine (awake_true _).mono ?_); rintro e w8 ⟨rfl, b8⟩))
    go_ret
    exact ⟨rfl, BW5.trans (((b6.trans (b7.mono b6.size)).trans (b8.mono (Nat.le_trans b6.size b7.size))).mono BW5.size)⟩
  · go_upto_region 27 with ((go_at_call 20); (with_reducible refine (hp _).mono ?_); rintro e w' ⟨rfl, rfl⟩)
    have hx5 : XW (w4.setCell ⟨w2.heap.size + 1 + 1, 2, none⟩ (.slice (some ⟨w2.heap.size, 0, none⟩) 1 2)) (w2.heap.size) (w2.heap.size + 1) (w2.heap.size + 1 + 1) 8 ⟨#[]⟩ ⟨#[97]⟩ ⟨#[98]⟩ 1 (.int .i64 x.k) (.string x.s) (.slice an x.ns.length cn) (.slice ap x.ps.length cp) 1 ⟨#[]⟩ x := (hx4.setNN 1)
    have BW5 : Below w.heap.size w (w4.setCell ⟨w2.heap.size + 1 + 1, 2, none⟩ (.slice (some ⟨w2.heap.size, 0, none⟩) 1 2)) := (BW4.setCell (p := ⟨w2.heap.size + 1 + 1, 2, none⟩) (by show w.heap.size ≤ w2.heap.size + 1 + 1; omega) _)
    clear x0 x1 x2 x3 m0 m1 l4 l5 l6 l7 fN fL fX tN tL tX hp BW4
    generalize (w4.setCell ⟨w2.heap.size + 1 + 1, 2, none⟩ (.slice (some ⟨w2.heap.size, 0, none⟩) 1 2)) = W5 at *
    have hR5 := hx5.read [⟨#[97]⟩] rfl (fun j t h => by first | exact h | (match j, h with | 0, h => exact h)) ⟨by decide, by decide, by decide, by decide⟩
    have hcF : Calls Tryd.prog 13 #[.agg #[.int .i64 8, .string ⟨#[]⟩, .slice (some ⟨w2.heap.size, 0, none⟩) 1 2, .slice (some ⟨w2.heap.size + 1, 0, none⟩) 2 2]] W5 (BoolBelow false W5) := by
      have := check_any W5.heap.size 6 _ _ W5 (Nat.le_refl _) hR5
      rwa [no_1 x] at this
    have htF : ∀ W, Below W5.heap.size W5 W → Calls Tryd.prog 15 #[.agg #[.int .i64 8, .string ⟨#[]⟩, .slice (some ⟨w2.heap.size, 0, none⟩) 1 2, .slice (some ⟨w2.heap.size + 1, 0, none⟩) 2 2]] W (StrBelow W []) := fun W hb => text_none W5.heap.size 6 _ _ W hb.size (hR5.below hb) (no_1 x)
    have x0 := hx5.x0
    have x1 := hx5.x1
    have x2 := hx5.x2
    have x3 := hx5.x3
    have HX5 := Lib.hid hx5
    clear hx5 hx4 hR5
    go_wp2_with (first | ((go_at_call 13); (with_reducible refine hcF.mono ?_); rintro e w6 ⟨rfl, b6⟩; have hx6 := HX5.out.grow b6; have y0 := hx6.x0; have y1 := hx6.x1; have y2 := hx6.x2; have y3 := hx6.x3; clear hx6) | ((go_at_call 15); (with_reducible refine (htF _ b6).mono ?_); rintro e w7 ⟨rfl, b7⟩) | ((go_at_call 8); (with_reducible refine (awake_true _).mono ?_); rintro e w8 ⟨rfl, b8⟩))
    go_ret
    exact ⟨rfl, BW5.trans (((b6.trans (b7.mono b6.size)).trans (b8.mono (Nat.le_trans b6.size b7.size))).mono BW5.size)⟩
  · go_upto_region 27 with ((go_at_call 20); (with_reducible refine (hp _).mono ?_); rintro e w' ⟨rfl, rfl⟩)
    have hx5 : XW (w4.setCell ⟨w2.heap.size + 1 + 1, 1, none⟩ (.string ⟨#[120]⟩)) (w2.heap.size) (w2.heap.size + 1) (w2.heap.size + 1 + 1) 8 ⟨#[120]⟩ ⟨#[97]⟩ ⟨#[98]⟩ 2 (.int .i64 x.k) (.string x.s) (.slice an x.ns.length cn) (.slice ap x.ps.length cp) 1 ⟨#[]⟩ x := (hx4.setS ⟨#[120]⟩)
    have BW5 : Below w.heap.size w (w4.setCell ⟨w2.heap.size + 1 + 1, 1, none⟩ (.string ⟨#[120]⟩)) := (BW4.setCell (p := ⟨w2.heap.size + 1 + 1, 1, none⟩) (by show w.heap.size ≤ w2.heap.size + 1 + 1; omega) _)
    clear x0 x1 x2 x3 m0 m1 l4 l5 l6 l7 fN fL fX tN tL tX hp BW4
    generalize (w4.setCell ⟨w2.heap.size + 1 + 1, 1, none⟩ (.string ⟨#[120]⟩)) = W5 at *
    have hR5 := hx5.read [⟨#[97]⟩, ⟨#[98]⟩] rfl (fun j t h => by first | exact h | (match j, h with | 0, h => exact h)) ⟨by decide, by decide, by decide, by decide⟩
    have hcF : Calls Tryd.prog 13 #[.agg #[.int .i64 8, .string ⟨#[120]⟩, .slice (some ⟨w2.heap.size, 0, none⟩) 2 2, .slice (some ⟨w2.heap.size + 1, 0, none⟩) 2 2]] W5 (BoolBelow false W5) := by
      have := check_any W5.heap.size 6 _ _ W5 (Nat.le_refl _) hR5
      rwa [no_2 x] at this
    have htF : ∀ W, Below W5.heap.size W5 W → Calls Tryd.prog 15 #[.agg #[.int .i64 8, .string ⟨#[120]⟩, .slice (some ⟨w2.heap.size, 0, none⟩) 2 2, .slice (some ⟨w2.heap.size + 1, 0, none⟩) 2 2]] W (StrBelow W []) := fun W hb => text_none W5.heap.size 6 _ _ W hb.size (hR5.below hb) (no_2 x)
    have x0 := hx5.x0
    have x1 := hx5.x1
    have x2 := hx5.x2
    have x3 := hx5.x3
    have HX5 := Lib.hid hx5
    clear hx5 hx4 hR5
    go_wp2_with (first | ((go_at_call 13); (with_reducible refine hcF.mono ?_); rintro e w6 ⟨rfl, b6⟩; have hx6 := HX5.out.grow b6; have y0 := hx6.x0; have y1 := hx6.x1; have y2 := hx6.x2; have y3 := hx6.x3; clear hx6) | ((go_at_call 15); (with_reducible refine (htF _ b6).mono ?_); rintro e w7 ⟨rfl, b7⟩) | ((go_at_call 8); (with_reducible refine (awake_true _).mono ?_); rintro e w8 ⟨rfl, b8⟩))
    go_ret
    exact ⟨rfl, BW5.trans (((b6.trans (b7.mono b6.size)).trans (b8.mono (Nat.le_trans b6.size b7.size))).mono BW5.size)⟩
  · go_upto_region 27 with ((go_at_call 20); (with_reducible refine (hp _).mono ?_); rintro e w' ⟨rfl, rfl⟩)
    have hx5 : XW (w4.setCell ⟨w2.heap.size + 1, 4, none⟩ (.int .i64 6)) (w2.heap.size) (w2.heap.size + 1) (w2.heap.size + 1 + 1) 8 ⟨#[]⟩ ⟨#[97]⟩ ⟨#[98]⟩ 2 (.int .i64 x.k) (.string x.s) (.slice an x.ns.length cn) (.slice ap x.ps.length cp) 6 ⟨#[]⟩ x := (hx4.setK' 6)
    have BW5 : Below w.heap.size w (w4.setCell ⟨w2.heap.size + 1, 4, none⟩ (.int .i64 6)) := (BW4.setCell (p := ⟨w2.heap.size + 1, 4, none⟩) (by show w.heap.size ≤ w2.heap.size + 1; omega) _)
    clear x0 x1 x2 x3 m0 m1 l4 l5 l6 l7 fN fL fX tN tL tX hp BW4
    generalize (w4.setCell ⟨w2.heap.size + 1, 4, none⟩ (.int .i64 6)) = W5 at *
    have hR5 := hx5.read [⟨#[97]⟩, ⟨#[98]⟩] rfl (fun j t h => by first | exact h | (match j, h with | 0, h => exact h)) ⟨by decide, by decide, by decide, by decide⟩
    have hcF : Calls Tryd.prog 13 #[.agg #[.int .i64 8, .string ⟨#[]⟩, .slice (some ⟨w2.heap.size, 0, none⟩) 2 2, .slice (some ⟨w2.heap.size + 1, 0, none⟩) 2 2]] W5 (BoolBelow false W5) := by
      have := check_any W5.heap.size 6 _ _ W5 (Nat.le_refl _) hR5
      rwa [no_leaf x _ _ no_3] at this
    have htF : ∀ W, Below W5.heap.size W5 W → Calls Tryd.prog 15 #[.agg #[.int .i64 8, .string ⟨#[]⟩, .slice (some ⟨w2.heap.size, 0, none⟩) 2 2, .slice (some ⟨w2.heap.size + 1, 0, none⟩) 2 2]] W (StrBelow W []) := fun W hb => text_none W5.heap.size 6 _ _ W hb.size (hR5.below hb) (no_leaf x _ _ no_3)
    have x0 := hx5.x0
    have x1 := hx5.x1
    have x2 := hx5.x2
    have x3 := hx5.x3
    have HX5 := Lib.hid hx5
    clear hx5 hx4 hR5
    go_wp2_with (first | ((go_at_call 13); (with_reducible refine hcF.mono ?_); rintro e w6 ⟨rfl, b6⟩; have hx6 := HX5.out.grow b6; have y0 := hx6.x0; have y1 := hx6.x1; have y2 := hx6.x2; have y3 := hx6.x3; clear hx6) | ((go_at_call 15); (with_reducible refine (htF _ b6).mono ?_); rintro e w7 ⟨rfl, b7⟩) | ((go_at_call 8); (with_reducible refine (awake_true _).mono ?_); rintro e w8 ⟨rfl, b8⟩))
    go_ret
    exact ⟨rfl, BW5.trans (((b6.trans (b7.mono b6.size)).trans (b8.mono (Nat.le_trans b6.size b7.size))).mono BW5.size)⟩
  · go_upto_region 27 with ((go_at_call 20); (with_reducible refine (hp _).mono ?_); rintro e w' ⟨rfl, rfl⟩)
    have hx5 : XW ((((w4.setCell ⟨w2.heap.size + 1, 4, none⟩ (.int .i64 3)).setCell ⟨w2.heap.size + 1, 5, none⟩ (.string ⟨#[49, 46, 53]⟩)).setCell ⟨w2.heap.size + 1, 6, none⟩ (.slice none 0 0)).setCell ⟨w2.heap.size + 1, 7, none⟩ (.slice none 0 0)) (w2.heap.size) (w2.heap.size + 1) (w2.heap.size + 1 + 1) 8 ⟨#[]⟩ ⟨#[97]⟩ ⟨#[98]⟩ 2 (.int .i64 x.k) (.string x.s) (.slice an x.ns.length cn) (.slice ap x.ps.length cp) 3 ⟨#[49, 46, 53]⟩ x := ((((hx4.setK' 3).setS' ⟨#[49, 46, 53]⟩).set6).set7)
    have BW5 : Below w.heap.size w ((((w4.setCell ⟨w2.heap.size + 1, 4, none⟩ (.int .i64 3)).setCell ⟨w2.heap.size + 1, 5, none⟩ (.string ⟨#[49, 46, 53]⟩)).setCell ⟨w2.heap.size + 1, 6, none⟩ (.slice none 0 0)).setCell ⟨w2.heap.size + 1, 7, none⟩ (.slice none 0 0)) := ((((BW4.setCell (p := ⟨w2.heap.size + 1, 4, none⟩) (by show w.heap.size ≤ w2.heap.size + 1; omega) _).setCell (p := ⟨w2.heap.size + 1, 5, none⟩) (by show w.heap.size ≤ w2.heap.size + 1; omega) _).setCell (p := ⟨w2.heap.size + 1, 6, none⟩) (by show w.heap.size ≤ w2.heap.size + 1; omega) _).setCell (p := ⟨w2.heap.size + 1, 7, none⟩) (by show w.heap.size ≤ w2.heap.size + 1; omega) _)
    clear x0 x1 x2 x3 m0 m1 l4 l5 l6 l7 fN fL fX tN tL tX hp BW4
    generalize ((((w4.setCell ⟨w2.heap.size + 1, 4, none⟩ (.int .i64 3)).setCell ⟨w2.heap.size + 1, 5, none⟩ (.string ⟨#[49, 46, 53]⟩)).setCell ⟨w2.heap.size + 1, 6, none⟩ (.slice none 0 0)).setCell ⟨w2.heap.size + 1, 7, none⟩ (.slice none 0 0)) = W5 at *
    have hR5 := hx5.read [⟨#[97]⟩, ⟨#[98]⟩] rfl (fun j t h => by first | exact h | (match j, h with | 0, h => exact h)) ⟨by decide, by decide, by decide, by decide⟩
    have hcF : Calls Tryd.prog 13 #[.agg #[.int .i64 8, .string ⟨#[]⟩, .slice (some ⟨w2.heap.size, 0, none⟩) 2 2, .slice (some ⟨w2.heap.size + 1, 0, none⟩) 2 2]] W5 (BoolBelow false W5) := by
      have := check_any W5.heap.size 6 _ _ W5 (Nat.le_refl _) hR5
      rwa [no_leaf x _ _ no_4] at this
    have htF : ∀ W, Below W5.heap.size W5 W → Calls Tryd.prog 15 #[.agg #[.int .i64 8, .string ⟨#[]⟩, .slice (some ⟨w2.heap.size, 0, none⟩) 2 2, .slice (some ⟨w2.heap.size + 1, 0, none⟩) 2 2]] W (StrBelow W []) := fun W hb => text_none W5.heap.size 6 _ _ W hb.size (hR5.below hb) (no_leaf x _ _ no_4)
    have x0 := hx5.x0
    have x1 := hx5.x1
    have x2 := hx5.x2
    have x3 := hx5.x3
    have HX5 := Lib.hid hx5
    clear hx5 hx4 hR5
    go_wp2_with (first | ((go_at_call 13); (with_reducible refine hcF.mono ?_); rintro e w6 ⟨rfl, b6⟩; have hx6 := HX5.out.grow b6; have y0 := hx6.x0; have y1 := hx6.x1; have y2 := hx6.x2; have y3 := hx6.x3; clear hx6) | ((go_at_call 15); (with_reducible refine (htF _ b6).mono ?_); rintro e w7 ⟨rfl, b7⟩) | ((go_at_call 8); (with_reducible refine (awake_true _).mono ?_); rintro e w8 ⟨rfl, b8⟩))
    go_ret
    exact ⟨rfl, BW5.trans (((b6.trans (b7.mono b6.size)).trans (b8.mono (Nat.le_trans b6.size b7.size))).mono BW5.size)⟩
  · go_upto_region 27 with ((go_at_call 20); (with_reducible refine (hp _).mono ?_); rintro e w' ⟨rfl, rfl⟩)
    have hx5 : XW ((((w4.setCell ⟨w2.heap.size + 1, 4, none⟩ (.int .i64 2)).setCell ⟨w2.heap.size + 1, 5, none⟩ (.string ⟨#[121, 101, 115]⟩)).setCell ⟨w2.heap.size + 1, 6, none⟩ (.slice none 0 0)).setCell ⟨w2.heap.size + 1, 7, none⟩ (.slice none 0 0)) (w2.heap.size) (w2.heap.size + 1) (w2.heap.size + 1 + 1) 8 ⟨#[]⟩ ⟨#[97]⟩ ⟨#[98]⟩ 2 (.int .i64 x.k) (.string x.s) (.slice an x.ns.length cn) (.slice ap x.ps.length cp) 2 ⟨#[121, 101, 115]⟩ x := ((((hx4.setK' 2).setS' ⟨#[121, 101, 115]⟩).set6).set7)
    have BW5 : Below w.heap.size w ((((w4.setCell ⟨w2.heap.size + 1, 4, none⟩ (.int .i64 2)).setCell ⟨w2.heap.size + 1, 5, none⟩ (.string ⟨#[121, 101, 115]⟩)).setCell ⟨w2.heap.size + 1, 6, none⟩ (.slice none 0 0)).setCell ⟨w2.heap.size + 1, 7, none⟩ (.slice none 0 0)) := ((((BW4.setCell (p := ⟨w2.heap.size + 1, 4, none⟩) (by show w.heap.size ≤ w2.heap.size + 1; omega) _).setCell (p := ⟨w2.heap.size + 1, 5, none⟩) (by show w.heap.size ≤ w2.heap.size + 1; omega) _).setCell (p := ⟨w2.heap.size + 1, 6, none⟩) (by show w.heap.size ≤ w2.heap.size + 1; omega) _).setCell (p := ⟨w2.heap.size + 1, 7, none⟩) (by show w.heap.size ≤ w2.heap.size + 1; omega) _)
    clear x0 x1 x2 x3 m0 m1 l4 l5 l6 l7 fN fL fX tN tL tX hp BW4
    generalize ((((w4.setCell ⟨w2.heap.size + 1, 4, none⟩ (.int .i64 2)).setCell ⟨w2.heap.size + 1, 5, none⟩ (.string ⟨#[121, 101, 115]⟩)).setCell ⟨w2.heap.size + 1, 6, none⟩ (.slice none 0 0)).setCell ⟨w2.heap.size + 1, 7, none⟩ (.slice none 0 0)) = W5 at *
    have hR5 := hx5.read [⟨#[97]⟩, ⟨#[98]⟩] rfl (fun j t h => by first | exact h | (match j, h with | 0, h => exact h)) ⟨by decide, by decide, by decide, by decide⟩
    have hcF : Calls Tryd.prog 13 #[.agg #[.int .i64 8, .string ⟨#[]⟩, .slice (some ⟨w2.heap.size, 0, none⟩) 2 2, .slice (some ⟨w2.heap.size + 1, 0, none⟩) 2 2]] W5 (BoolBelow false W5) := by
      have := check_any W5.heap.size 6 _ _ W5 (Nat.le_refl _) hR5
      rwa [no_leaf x _ _ no_5] at this
    have htF : ∀ W, Below W5.heap.size W5 W → Calls Tryd.prog 15 #[.agg #[.int .i64 8, .string ⟨#[]⟩, .slice (some ⟨w2.heap.size, 0, none⟩) 2 2, .slice (some ⟨w2.heap.size + 1, 0, none⟩) 2 2]] W (StrBelow W []) := fun W hb => text_none W5.heap.size 6 _ _ W hb.size (hR5.below hb) (no_leaf x _ _ no_5)
    have x0 := hx5.x0
    have x1 := hx5.x1
    have x2 := hx5.x2
    have x3 := hx5.x3
    have HX5 := Lib.hid hx5
    clear hx5 hx4 hR5
    go_wp2_with (first | ((go_at_call 13); (with_reducible refine hcF.mono ?_); rintro e w6 ⟨rfl, b6⟩; have hx6 := HX5.out.grow b6; have y0 := hx6.x0; have y1 := hx6.x1; have y2 := hx6.x2; have y3 := hx6.x3; clear hx6) | ((go_at_call 15); (with_reducible refine (htF _ b6).mono ?_); rintro e w7 ⟨rfl, b7⟩) | ((go_at_call 8); (with_reducible refine (awake_true _).mono ?_); rintro e w8 ⟨rfl, b8⟩))
    go_ret
    exact ⟨rfl, BW5.trans (((b6.trans (b7.mono b6.size)).trans (b8.mono (Nat.le_trans b6.size b7.size))).mono BW5.size)⟩
  · go_upto_region 27 with ((go_at_call 20); (with_reducible refine (hp _).mono ?_); rintro e w' ⟨rfl, rfl⟩)
    have hx5 : XW ((((w4.setCell ⟨w2.heap.size + 1, 4, none⟩ (.int .i64 5)).setCell ⟨w2.heap.size + 1, 5, none⟩ (.string ⟨#[255]⟩)).setCell ⟨w2.heap.size + 1, 6, none⟩ (.slice none 0 0)).setCell ⟨w2.heap.size + 1, 7, none⟩ (.slice none 0 0)) (w2.heap.size) (w2.heap.size + 1) (w2.heap.size + 1 + 1) 8 ⟨#[]⟩ ⟨#[97]⟩ ⟨#[98]⟩ 2 (.int .i64 x.k) (.string x.s) (.slice an x.ns.length cn) (.slice ap x.ps.length cp) 5 ⟨#[255]⟩ x := ((((hx4.setK' 5).setS' ⟨#[255]⟩).set6).set7)
    have BW5 : Below w.heap.size w ((((w4.setCell ⟨w2.heap.size + 1, 4, none⟩ (.int .i64 5)).setCell ⟨w2.heap.size + 1, 5, none⟩ (.string ⟨#[255]⟩)).setCell ⟨w2.heap.size + 1, 6, none⟩ (.slice none 0 0)).setCell ⟨w2.heap.size + 1, 7, none⟩ (.slice none 0 0)) := ((((BW4.setCell (p := ⟨w2.heap.size + 1, 4, none⟩) (by show w.heap.size ≤ w2.heap.size + 1; omega) _).setCell (p := ⟨w2.heap.size + 1, 5, none⟩) (by show w.heap.size ≤ w2.heap.size + 1; omega) _).setCell (p := ⟨w2.heap.size + 1, 6, none⟩) (by show w.heap.size ≤ w2.heap.size + 1; omega) _).setCell (p := ⟨w2.heap.size + 1, 7, none⟩) (by show w.heap.size ≤ w2.heap.size + 1; omega) _)
    clear x0 x1 x2 x3 m0 m1 l4 l5 l6 l7 fN fL fX tN tL tX hp BW4
    generalize ((((w4.setCell ⟨w2.heap.size + 1, 4, none⟩ (.int .i64 5)).setCell ⟨w2.heap.size + 1, 5, none⟩ (.string ⟨#[255]⟩)).setCell ⟨w2.heap.size + 1, 6, none⟩ (.slice none 0 0)).setCell ⟨w2.heap.size + 1, 7, none⟩ (.slice none 0 0)) = W5 at *
    have hR5 := hx5.read [⟨#[97]⟩, ⟨#[98]⟩] rfl (fun j t h => by first | exact h | (match j, h with | 0, h => exact h)) ⟨by decide, by decide, by decide, by decide⟩
    have hcF : Calls Tryd.prog 13 #[.agg #[.int .i64 8, .string ⟨#[]⟩, .slice (some ⟨w2.heap.size, 0, none⟩) 2 2, .slice (some ⟨w2.heap.size + 1, 0, none⟩) 2 2]] W5 (BoolBelow false W5) := by
      have := check_any W5.heap.size 6 _ _ W5 (Nat.le_refl _) hR5
      rwa [no_leaf x _ _ no_6] at this
    have htF : ∀ W, Below W5.heap.size W5 W → Calls Tryd.prog 15 #[.agg #[.int .i64 8, .string ⟨#[]⟩, .slice (some ⟨w2.heap.size, 0, none⟩) 2 2, .slice (some ⟨w2.heap.size + 1, 0, none⟩) 2 2]] W (StrBelow W []) := fun W hb => text_none W5.heap.size 6 _ _ W hb.size (hR5.below hb) (no_leaf x _ _ no_6)
    have x0 := hx5.x0
    have x1 := hx5.x1
    have x2 := hx5.x2
    have x3 := hx5.x3
    have HX5 := Lib.hid hx5
    clear hx5 hx4 hR5
    go_wp2_with (first | ((go_at_call 13); (with_reducible refine hcF.mono ?_); rintro e w6 ⟨rfl, b6⟩; have hx6 := HX5.out.grow b6; have y0 := hx6.x0; have y1 := hx6.x1; have y2 := hx6.x2; have y3 := hx6.x3; clear hx6) | ((go_at_call 15); (with_reducible refine (htF _ b6).mono ?_); rintro e w7 ⟨rfl, b7⟩) | ((go_at_call 8); (with_reducible refine (awake_true _).mono ?_); rintro e w8 ⟨rfl, b8⟩))
    go_ret
    exact ⟨rfl, BW5.trans (((b6.trans (b7.mono b6.size)).trans (b8.mono (Nat.le_trans b6.size b7.size))).mono BW5.size)⟩
  · go_upto_region 27 with ((go_at_call 20); (with_reducible refine (hp _).mono ?_); rintro e w' ⟨rfl, rfl⟩)
    have hx5 : XW (w4.setCell ⟨w2.heap.size, 0, none⟩ (.string ⟨#[255]⟩)) (w2.heap.size) (w2.heap.size + 1) (w2.heap.size + 1 + 1) 8 ⟨#[]⟩ ⟨#[255]⟩ ⟨#[98]⟩ 2 (.int .i64 x.k) (.string x.s) (.slice an x.ns.length cn) (.slice ap x.ps.length cp) 1 ⟨#[]⟩ x := (hx4.setN0 ⟨#[255]⟩)
    have BW5 : Below w.heap.size w (w4.setCell ⟨w2.heap.size, 0, none⟩ (.string ⟨#[255]⟩)) := (BW4.setCell (p := ⟨w2.heap.size, 0, none⟩) (by show w.heap.size ≤ w2.heap.size; omega) _)
    clear x0 x1 x2 x3 m0 m1 l4 l5 l6 l7 fN fL fX tN tL tX hp BW4
    generalize (w4.setCell ⟨w2.heap.size, 0, none⟩ (.string ⟨#[255]⟩)) = W5 at *
    have hR5 := hx5.read [⟨#[255]⟩, ⟨#[98]⟩] rfl (fun j t h => by first | exact h | (match j, h with | 0, h => exact h)) ⟨by decide, by decide, by decide, by decide⟩
    have hcF : Calls Tryd.prog 13 #[.agg #[.int .i64 8, .string ⟨#[]⟩, .slice (some ⟨w2.heap.size, 0, none⟩) 2 2, .slice (some ⟨w2.heap.size + 1, 0, none⟩) 2 2]] W5 (BoolBelow false W5) := by
      have := check_any W5.heap.size 6 _ _ W5 (Nat.le_refl _) hR5
      rwa [no_7 x] at this
    have htF : ∀ W, Below W5.heap.size W5 W → Calls Tryd.prog 15 #[.agg #[.int .i64 8, .string ⟨#[]⟩, .slice (some ⟨w2.heap.size, 0, none⟩) 2 2, .slice (some ⟨w2.heap.size + 1, 0, none⟩) 2 2]] W (StrBelow W []) := fun W hb => text_none W5.heap.size 6 _ _ W hb.size (hR5.below hb) (no_7 x)
    have x0 := hx5.x0
    have x1 := hx5.x1
    have x2 := hx5.x2
    have x3 := hx5.x3
    have HX5 := Lib.hid hx5
    clear hx5 hx4 hR5
    go_wp2_with (first | ((go_at_call 13); (with_reducible refine hcF.mono ?_); rintro e w6 ⟨rfl, b6⟩; have hx6 := HX5.out.grow b6; have y0 := hx6.x0; have y1 := hx6.x1; have y2 := hx6.x2; have y3 := hx6.x3; clear hx6) | ((go_at_call 15); (with_reducible refine (htF _ b6).mono ?_); rintro e w7 ⟨rfl, b7⟩) | ((go_at_call 8); (with_reducible refine (awake_true _).mono ?_); rintro e w8 ⟨rfl, b8⟩))
    go_ret
    exact ⟨rfl, BW5.trans (((b6.trans (b7.mono b6.size)).trans (b8.mono (Nat.le_trans b6.size b7.size))).mono BW5.size)⟩
  · go_upto_region 27 with ((go_at_call 20); (with_reducible refine (hp _).mono ?_); rintro e w' ⟨rfl, rfl⟩)
    have hx5 : XW (w4.setCell ⟨w2.heap.size + 1 + 1, 0, none⟩ (.int .i64 7)) (w2.heap.size) (w2.heap.size + 1) (w2.heap.size + 1 + 1) 7 ⟨#[]⟩ ⟨#[97]⟩ ⟨#[98]⟩ 2 (.int .i64 x.k) (.string x.s) (.slice an x.ns.length cn) (.slice ap x.ps.length cp) 1 ⟨#[]⟩ x := (hx4.setK 7)
    have BW5 : Below w.heap.size w (w4.setCell ⟨w2.heap.size + 1 + 1, 0, none⟩ (.int .i64 7)) := (BW4.setCell (p := ⟨w2.heap.size + 1 + 1, 0, none⟩) (by show w.heap.size ≤ w2.heap.size + 1 + 1; omega) _)
    clear x0 x1 x2 x3 m0 m1 l4 l5 l6 l7 fN fL fX tN tL tX hp BW4
    generalize (w4.setCell ⟨w2.heap.size + 1 + 1, 0, none⟩ (.int .i64 7)) = W5 at *
    have hR5 := hx5.read [⟨#[97]⟩, ⟨#[98]⟩] rfl (fun j t h => by first | exact h | (match j, h with | 0, h => exact h)) ⟨by decide, by decide, by decide, by decide⟩
    have hcF : Calls Tryd.prog 13 #[.agg #[.int .i64 7, .string ⟨#[]⟩, .slice (some ⟨w2.heap.size, 0, none⟩) 2 2, .slice (some ⟨w2.heap.size + 1, 0, none⟩) 2 2]] W5 (BoolBelow false W5) := by
      have := check_any W5.heap.size 6 _ _ W5 (Nat.le_refl _) hR5
      rwa [no_8 x] at this
    have htF : ∀ W, Below W5.heap.size W5 W → Calls Tryd.prog 15 #[.agg #[.int .i64 7, .string ⟨#[]⟩, .slice (some ⟨w2.heap.size, 0, none⟩) 2 2, .slice (some ⟨w2.heap.size + 1, 0, none⟩) 2 2]] W (StrBelow W []) := fun W hb => text_none W5.heap.size 6 _ _ W hb.size (hR5.below hb) (no_8 x)
    have x0 := hx5.x0
    have x1 := hx5.x1
    have x2 := hx5.x2
    have x3 := hx5.x3
    have HX5 := Lib.hid hx5
    clear hx5 hx4 hR5
    go_wp2_with (first | ((go_at_call 13); (with_reducible refine hcF.mono ?_); rintro e w6 ⟨rfl, b6⟩; have hx6 := HX5.out.grow b6; have y0 := hx6.x0; have y1 := hx6.x1; have y2 := hx6.x2; have y3 := hx6.x3; clear hx6) | ((go_at_call 15); (with_reducible refine (htF _ b6).mono ?_); rintro e w7 ⟨rfl, b7⟩) | ((go_at_call 8); (with_reducible refine (awake_true _).mono ?_); rintro e w8 ⟨rfl, b8⟩))
    go_ret
    exact ⟨rfl, BW5.trans (((b6.trans (b7.mono b6.size)).trans (b8.mono (Nat.le_trans b6.size b7.size))).mono BW5.size)⟩

theorem jvalWrong_walk (a : Option Addr) (len cap : Nat) (zs : List Int) (how : Int) (w : World) (hz : zs.length = len) (_hl : len ≤ maxLen) (hr : 0 < len → ∃ b off, a = some ⟨b, off, none⟩ ∧ ∀ i z, zs[i]? = some z → w.cell? ⟨b, off + i, none⟩ = some (.int .i64 z)) :
    Calls Tryd.prog 5 #[.slice a len cap, .int .i64 how] w (TrueBelow w) := by
  by_cases h30 : 30 < len
  · exact jvalWrong_long a len cap how w h30
  · subst hz
    exact jvalWrong_short a cap zs how (how % 9) w (by omega) (ints_at_of hr) (Int.emod_nonneg _ (by decide)) (Int.emod_lt_of_pos _ (by decide)) (fun W => place_any how 9 W (by decide) (by decide))

end Go.Proofs.YtkaboegjdalmeaaDoor
