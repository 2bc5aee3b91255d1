/-
  JvalNumbers' walk.
-/
import Derived.Test.YtkaboegjdalmeaaDoorInj2
import Derived.Test.YtkaboegjdalmeaaDoorJw2
import Derived.Test.YtkaboegjdalmeaaDoorSame2
import Derived.Deep.RegionWith
import Derived.Deep.Cut
namespace Go.Proofs.YtkaboegjdalmeaaDoor
open Go.RowKit

set_option maxHeartbeats 2000000 in
set_option maxRecDepth 100000 in
theorem jvalNumbers_long1 (a a' : Option Addr) (len cap len' cap' : Nat) (w : World) (h : 40 < len) :
    Calls Tryd.prog 4 #[.slice a len cap, .slice a' len' cap'] w (TrueBelow w) := by
  have d0 : decide (40 < len) = true := by simpa using h
  have d1 : decide ((40 : Int) < len) = true := by simp; omega
  go_enter Tryd.func4, Tryd.ntmps4
  go_wp2_with ((go_at_call 8); (with_reducible refine (awake_true _).mono ?_); rintro e w' ⟨rfl, b1⟩)
  go_ret
  exact ⟨rfl, b1⟩
set_option maxHeartbeats 2000000 in
set_option maxRecDepth 100000 in
theorem jvalNumbers_long2 (a a' : Option Addr) (len cap len' cap' : Nat) (w : World) (h0 : len ≤ 40) (h : 40 < len') :
    Calls Tryd.prog 4 #[.slice a len cap, .slice a' len' cap'] w (TrueBelow w) := by
  have d0 : decide (40 < len') = true := by simpa using h
  have d1 : decide ((40 : Int) < len') = true := by simp; omega
  have d2 : decide (40 < len) = false := by simpa using h0
  have d3 : decide ((40 : Int) < len) = false := by simp; omega
  go_enter Tryd.func4, Tryd.ntmps4
  go_wp2_with ((go_at_call 8); (with_reducible refine (awake_true _).mono ?_); rintro e w' ⟨rfl, b1⟩)
  go_ret
  exact ⟨rfl, b1⟩

theorem txt_some {x : JV} (h : chkAt 12 x = true) : (txt 12 x) ≠ [] := by
  obtain ⟨a, t, e, _⟩ := head_ok h
  rw [e]
  simp

set_option maxHeartbeats 10000000 in
set_option maxRecDepth 100000 in
theorem jvalNumbers_short (a a' : Option Addr) (cap cap' : Nat) (zs ys : List Int) (w : World) (h0 : zs.length ≤ 40) (h1 : ys.length ≤ 40) (hz : IntsAt w w.heap.size a zs) (hy : IntsAt w w.heap.size a' ys) :
    Calls Tryd.prog 4 #[.slice a zs.length cap, .slice a' ys.length cap'] w (TrueBelow w) := by
  have d0 : decide (40 < ys.length) = false := by simpa using h1
  have d1 : decide ((40 : Int) < ys.length) = false := by simp; omega
  have d2 : decide (40 < zs.length) = false := by simpa using h0
  have d3 : decide ((40 : Int) < zs.length) = false := by simp; omega
  have hm1 : Calls Tryd.prog 19 #[.slice a zs.length cap, .int .i64 0, .int .i64 6] w (MadeIs 6 w) := made_any 6 (by omega) (by omega) w.heap.size a cap zs 0 w (by omega) (by omega) (Nat.le_refl _) hz
  have hm2 : ∀ W, Below w.heap.size w W → Calls Tryd.prog 19 #[.slice a' ys.length cap', .int .i64 0, .int .i64 6] W (MadeIs 6 W) := fun W hb => made_any 6 (by omega) (by omega) w.heap.size a' cap' ys 0 W (by omega) (by omega) hb.size (hy.below hb)
  clear hz hy
  go_enter Tryd.func4, Tryd.ntmps4
  go_upto_region 4 with ((go_at_call 19); (with_reducible refine hm1.mono ?_); rintro e w1 he; obtain ⟨x, v, at1, rfl, hR1, hck1, ht1, hb1⟩ := he.use (by omega); obtain ⟨an, cn, ap, cp, rfl⟩ := hR1.shape)
  have HR1 := Lib.hid hR1
  have HT1 := Lib.hid ht1
  have HC1 := Lib.hid hck1
  have bA1 : ∀ o, Below w.heap.size w (w1.alloc o) := fun o => hb1.alloc hb1.size o
  clear hR1 ht1 hck1 he hm1
  go_upto_region 5 with ((go_at_call 19); (with_reducible refine (hm2 _ (bA1 _)).mono ?_); rintro e w2 he; obtain ⟨y, v, at2, rfl, hR2, hck2, ht2, hb2⟩ := he.use (by omega); obtain ⟨an', cn', ap', cp', rfl⟩ := hR2.shape)
  have HR2 := Lib.hid hR2
  have HT2 := Lib.hid ht2
  have HC2 := Lib.hid hck2
  clear hR2 ht2 hck2 he hm2
  obtain ⟨V, hV⟩ : ∃ V, V = w2.alloc (.cells #[.int .i64 y.k, .string y.s, .slice an' y.ns.length cn', .slice ap' y.ps.length cp'] 25) := ⟨_, rfl⟩
  rw [← hV]
  have hw1 : w1.heap.size < w2.heap.size := by have := hb2.size; simp at this; omega
  have hVs : V.heap.size = w2.heap.size + 1 := by rw [hV]; simp
  have B1 : Below w1.heap.size w1 w2 := ((Below.refl _ w1).alloc (Nat.le_refl _) _).trans (hb2.mono (by simp))
  have B2 : Below w2.heap.size w2 V := by rw [hV]; exact (Below.refl _ w2).alloc (Nat.le_refl _) _
  have BV : Below w.heap.size w V := ((bA1 _).trans (hb2.mono (Nat.le_trans (bA1 _).size (Nat.le_refl _)))).trans (B2.mono (Nat.le_trans hb1.size (by omega)))
  have qx : ∀ j, V.cell? ⟨w1.heap.size, j, none⟩ = (#[Value.int .i64 x.k, .string x.s, .slice an x.ns.length cn, .slice ap x.ps.length cp] : Array Value)[j]? := fun j => by
    rw [B2.cell (p := ⟨w1.heap.size, j, none⟩) hw1, hb2.cell (p := ⟨w1.heap.size, j, none⟩) (by simp)]
    go_simp
  have qy : ∀ j, V.cell? ⟨w2.heap.size, j, none⟩ = (#[Value.int .i64 y.k, .string y.s, .slice an' y.ns.length cn', .slice ap' y.ps.length cp'] : Array Value)[j]? := fun j => by
    rw [hV]
    go_simp
  have F : ∀ W, Below V.heap.size V W → W.cell? ⟨w1.heap.size, 0, none⟩ = some (.int .i64 x.k) ∧ W.cell? ⟨w1.heap.size, 1, none⟩ = some (.string x.s) ∧ W.cell? ⟨w1.heap.size, 2, none⟩ = some (.slice an x.ns.length cn) ∧ W.cell? ⟨w1.heap.size, 3, none⟩ = some (.slice ap x.ps.length cp) ∧
      W.cell? ⟨w2.heap.size, 0, none⟩ = some (.int .i64 y.k) ∧ W.cell? ⟨w2.heap.size, 1, none⟩ = some (.string y.s) ∧ W.cell? ⟨w2.heap.size, 2, none⟩ = some (.slice an' y.ns.length cn') ∧ W.cell? ⟨w2.heap.size, 3, none⟩ = some (.slice ap' y.ps.length cp') := fun W hb => by
    have c1 : ∀ j, W.cell? ⟨w1.heap.size, j, none⟩ = V.cell? ⟨w1.heap.size, j, none⟩ := fun j => hb.cell (p := ⟨w1.heap.size, j, none⟩) (by show w1.heap.size < _; omega)
    have c2 : ∀ j, W.cell? ⟨w2.heap.size, j, none⟩ = V.cell? ⟨w2.heap.size, j, none⟩ := fun j => hb.cell (p := ⟨w2.heap.size, j, none⟩) (by show w2.heap.size < _; omega)
    exact ⟨(c1 0).trans (qx 0), (c1 1).trans (qx 1), (c1 2).trans (qx 2), (c1 3).trans (qx 3), (c2 0).trans (qy 0), (c2 1).trans (qy 1), (c2 2).trans (qy 2), (c2 3).trans (qy 3)⟩
  have R1 : Rd V V.heap.size 6 x (.agg #[.int .i64 x.k, .string x.s, .slice an x.ns.length cn, .slice ap x.ps.length cp]) := (HR1.out.below (B1.trans (B2.mono (by omega)))).more (by omega)
  have R2 : Rd V V.heap.size 6 y (.agg #[.int .i64 y.k, .string y.s, .slice an' y.ns.length cn', .slice ap' y.ps.length cp']) := (HR2.out.below B2).more (by omega)
  have tx1 : textB x = txt 12 x := by unfold textB; rw [HC1.out]; rfl
  have tx2 : textB y = txt 12 y := by unfold textB; rw [HC2.out]; rfl
  have T1 : ∀ W, Below V.heap.size V W → Calls Tryd.prog 15 #[.agg #[.int .i64 x.k, .string x.s, .slice an x.ns.length cn, .slice ap x.ps.length cp]] W (StrBelow W (txt 12 x)) := fun W hb => by
    rw [← tx1]
    exact text_any V.heap.size 6 x _ W hb.size (R1.below hb) (Nat.le_trans HT1.out (by decide))
  have T2 : ∀ W, Below V.heap.size V W → Calls Tryd.prog 15 #[.agg #[.int .i64 y.k, .string y.s, .slice an' y.ns.length cn', .slice ap' y.ps.length cp']] W (StrBelow W (txt 12 y)) := fun W hb => by
    rw [← tx2]
    exact text_any V.heap.size 6 y _ W hb.size (R2.below hb) (Nat.le_trans HT2.out (by decide))
  have C1 : ∀ W, Below V.heap.size V W → Calls Tryd.prog 13 #[.agg #[.int .i64 x.k, .string x.s, .slice an x.ns.length cn, .slice ap x.ps.length cp]] W (BoolBelow true W) := fun W hb => by
    have := check_any V.heap.size 6 x _ W hb.size (R1.below hb)
    rwa [HC1.out] at this
  have C2 : ∀ W, Below V.heap.size V W → Calls Tryd.prog 13 #[.agg #[.int .i64 y.k, .string y.s, .slice an' y.ns.length cn', .slice ap' y.ps.length cp']] W (BoolBelow true W) := fun W hb => by
    have := check_any V.heap.size 6 y _ W hb.size (R2.below hb)
    rwa [HC2.out] at this
  have S1 : ∀ W, Below V.heap.size V W → Calls Tryd.prog 17 #[.agg #[.int .i64 x.k, .string x.s, .slice an x.ns.length cn, .slice ap x.ps.length cp], .agg #[.int .i64 y.k, .string y.s, .slice an' y.ns.length cn', .slice ap' y.ps.length cp']] W (BoolBelow (sameB x y) W) := fun W hb =>
    same_any V.heap.size 6 x y _ _ W hb.size (by omega) (R1.below hb) (R2.below hb)
  have S2 : ∀ W, Below V.heap.size V W → Calls Tryd.prog 17 #[.agg #[.int .i64 x.k, .string x.s, .slice an x.ns.length cn, .slice ap x.ps.length cp], .agg #[.int .i64 x.k, .string x.s, .slice an x.ns.length cn, .slice ap x.ps.length cp]] W (BoolBelow true W) := fun W hb => by
    have := same_any V.heap.size 6 x x _ _ W hb.size (by omega) (R1.below hb) (R1.below hb)
    rwa [sameB_true rfl] at this
  have bc : Below V.heap.size V V.drew := (Below.refl _ _).drew
  obtain ⟨g0, g1, g2, g3, k0, k1, k2, k3⟩ := F _ (Below.refl _ V)
  have n1 := txt_some HC1.out
  have n2 := txt_some HC2.out
  have HI : Hid (txt 12 x = txt 12 y → x = y) := Lib.hid (fun e => txt_inj HC1.out HC2.out e)
  have HE : Hid (x = y → txt 12 x = txt 12 y) := Lib.hid (fun e => by rw [e])
  generalize txt 12 x = lx at *
  generalize txt 12 y = ly at *
  clear hV qx qy R1 R2 tx1 tx2 HR1 HR2 HT1 HT2 HC1 HC2 B1 B2 hb1 hb2 bA1
  obtain ⟨c, hc⟩ : ∃ c, sameB x y = c := ⟨_, rfl⟩
  rw [hc] at S1
  have E : (c = true ∧ lx = ly) ∨ (c = false ∧ lx ≠ ly) := by
    by_cases hxy : x = y
    · exact .inl ⟨by rw [← hc]; exact sameB_true hxy, HE.out hxy⟩
    · exact .inr ⟨by rw [← hc]; exact sameB_false hxy, fun e => hxy (HI.out e)⟩
  clear hc HE HI
  have p3 : lx.isEmpty = false := by cases lx; exact absurd rfl n1; rfl
  have p4 : ly.isEmpty = false := by cases ly; exact absurd rfl n2; rfl
  have p5 : (lx == []) = false := by rw [beq_eq_false_iff_ne]; exact n1
  have p6 : (ly == []) = false := by rw [beq_eq_false_iff_ne]; exact n2
  clear n1 n2
  rcases E with ⟨rfl, rfl⟩ | ⟨rfl, hne⟩
  · go_region_with (((go_at_call 15); (first | (with_reducible refine (T1 _ bc).mono ?_) | (with_reducible refine (T2 _ bc).mono ?_)); rintro e w3 ⟨rfl, b3⟩; have bc := bc.trans (b3.mono bc.size); obtain ⟨g0, g1, g2, g3, k0, k1, k2, k3⟩ := F _ bc))
    all_goals (
      go_wp2_with (first | ((go_at_call 13); (first | (with_reducible refine (C1 _ bc).mono ?_) | (with_reducible refine (C2 _ bc).mono ?_)); rintro e w4 ⟨rfl, b4⟩; have bc := bc.trans (b4.mono bc.size); obtain ⟨g0, g1, g2, g3, k0, k1, k2, k3⟩ := F _ bc) | ((go_at_call 17); (first | (with_reducible refine (S1 _ bc).mono ?_) | (with_reducible refine (S2 _ bc).mono ?_)); rintro e w5 ⟨rfl, b5⟩; have bc := bc.trans (b5.mono bc.size); obtain ⟨g0, g1, g2, g3, k0, k1, k2, k3⟩ := F _ bc) | ((go_at_call 8); (with_reducible refine (awake_true _).mono ?_); rintro e w6 ⟨rfl, b6⟩))
      go_ret
      exact ⟨rfl, BV.trans ((bc.trans (b6.mono bc.size)).mono BV.size)⟩)
  · have e2 : (lx == ly) = false := by rw [beq_eq_false_iff_ne]; exact hne
    clear hne
    go_region_with (((go_at_call 15); (first | (with_reducible refine (T1 _ bc).mono ?_) | (with_reducible refine (T2 _ bc).mono ?_)); rintro e w3 ⟨rfl, b3⟩; have bc := bc.trans (b3.mono bc.size); obtain ⟨g0, g1, g2, g3, k0, k1, k2, k3⟩ := F _ bc))
    all_goals (
      go_wp2_with (first | ((go_at_call 13); (first | (with_reducible refine (C1 _ bc).mono ?_) | (with_reducible refine (C2 _ bc).mono ?_)); rintro e w4 ⟨rfl, b4⟩; have bc := bc.trans (b4.mono bc.size); obtain ⟨g0, g1, g2, g3, k0, k1, k2, k3⟩ := F _ bc) | ((go_at_call 17); (first | (with_reducible refine (S1 _ bc).mono ?_) | (with_reducible refine (S2 _ bc).mono ?_)); rintro e w5 ⟨rfl, b5⟩; have bc := bc.trans (b5.mono bc.size); obtain ⟨g0, g1, g2, g3, k0, k1, k2, k3⟩ := F _ bc) | ((go_at_call 8); (with_reducible refine (awake_true _).mono ?_); rintro e w6 ⟨rfl, b6⟩))
      go_ret
      exact ⟨rfl, BV.trans ((bc.trans (b6.mono bc.size)).mono BV.size)⟩)

theorem jvalNumbers_walk (a : Option Addr) (len cap : Nat) (zs : List Int) (a' : Option Addr) (len' cap' : Nat) (ys : List Int) (w : World) (hz : zs.length = len) (_hl : len ≤ maxLen) (hr : 0 < len → ∃ b off, a = some ⟨b, off, none⟩ ∧ ∀ i z, zs[i]? = some z → w.cell? ⟨b, off + i, none⟩ = some (.int .i64 z))
    (hz' : ys.length = len') (_hl' : len' ≤ maxLen) (hr' : 0 < len' → ∃ b off, a' = some ⟨b, off, none⟩ ∧ ∀ i z, ys[i]? = some z → w.cell? ⟨b, off + i, none⟩ = some (.int .i64 z)) :
    Calls Tryd.prog 4 #[.slice a len cap, .slice a' len' cap'] w (TrueBelow w) := by
  by_cases h : 40 < len
  · exact jvalNumbers_long1 a a' len cap len' cap' w h
  by_cases h' : 40 < len'
  · exact jvalNumbers_long2 a a' len cap len' cap' w (by omega) h'
  subst hz hz'
  exact jvalNumbers_short a a' cap cap' zs ys w (by omega) (by omega) (ints_at_of hr) (ints_at_of hr')

end Go.Proofs.YtkaboegjdalmeaaDoor
