/-
  JvalAll's walk.
-/
import Derived.Test.YthmoadkkadlefaaDoorRg
import Derived.Test.YthmoadkkadlefaaDoorRt
import Derived.Test.YthmoadkkadlefaaDoorAl3
import Derived.Test.YthmoadkkadlefaaDoorAwake2
import Derived.Deep.RegionHeld3
namespace Go.Proofs.YthmoadkkadlefaaDoor
open Go.RowKit

theorem same_eq (x y : JV) : eqB x y = sameB x y := rfl


set_option maxHeartbeats 20000000 in
set_option maxRecDepth 100000 in
theorem jvalAll_walk (N : Nat) (hN : N ≤ 900000) (x y : JV) (v u : Value) (s : ByteArray) (w : World) (hx : Rd w w.heap.size (N + 1) x v) (hy : Rd w w.heap.size (N + 1) y u) (htx : (txt 12 x).length ≤ 100000000000) (hnd : ∀ p ∈ x.ps, nodes N p ≤ 2000000) :
    Calls Tryd.prog 3 #[v, u, .string s] w (TrueBelow w) := by
  obtain ⟨an, cn, ap, cp, rfl⟩ := hx.shape
  obtain ⟨an', cn', ap', cp', rfl⟩ := hy.shape
  obtain ⟨V, hV⟩ : ∃ V, V = (w.alloc (.cells #[.int .i64 x.k, .string x.s, .slice an x.ns.length cn, .slice ap x.ps.length cp] 25)).alloc (.cells #[.int .i64 y.k, .string y.s, .slice an' y.ns.length cn', .slice ap' y.ps.length cp'] 25) := ⟨_, rfl⟩
  have hVs : V.heap.size = w.heap.size + 2 := by rw [hV]; simp
  have BV : Below w.heap.size w V := by rw [hV]; exact ((Below.refl _ w).alloc (Nat.le_refl _) _).alloc (by simp) _
  have F : ∀ W, Below V.heap.size V W → W.cell? ⟨w.heap.size, 0, none⟩ = some (.int .i64 x.k) ∧ W.cell? ⟨w.heap.size, 1, none⟩ = some (.string x.s) ∧ W.cell? ⟨w.heap.size, 2, none⟩ = some (.slice an x.ns.length cn) ∧ W.cell? ⟨w.heap.size, 3, none⟩ = some (.slice ap x.ps.length cp) ∧ W.cell? ⟨w.heap.size + 1, 0, none⟩ = some (.int .i64 y.k) ∧ W.cell? ⟨w.heap.size + 1, 1, none⟩ = some (.string y.s) ∧ W.cell? ⟨w.heap.size + 1, 2, none⟩ = some (.slice an' y.ns.length cn') ∧ W.cell? ⟨w.heap.size + 1, 3, none⟩ = some (.slice ap' y.ps.length cp') := fun W hb => by
    have c1 : ∀ j, W.cell? ⟨w.heap.size, j, none⟩ = V.cell? ⟨w.heap.size, j, none⟩ := fun j => hb.cell (p := ⟨w.heap.size, j, none⟩) (by show w.heap.size < _; omega)
    have c2 : ∀ j, W.cell? ⟨w.heap.size + 1, j, none⟩ = V.cell? ⟨w.heap.size + 1, j, none⟩ := fun j => hb.cell (p := ⟨w.heap.size + 1, j, none⟩) (by show w.heap.size + 1 < _; omega)
    refine ⟨(c1 0).trans ?_, (c1 1).trans ?_, (c1 2).trans ?_, (c1 3).trans ?_, (c2 0).trans ?_, (c2 1).trans ?_, (c2 2).trans ?_, (c2 3).trans ?_⟩ <;> (rw [hV]; go_simp)
  have RX : Rd V V.heap.size (N + 1) x (.agg #[.int .i64 x.k, .string x.s, .slice an x.ns.length cn, .slice ap x.ps.length cp]) := (hx.below BV).more BV.size
  have RY : Rd V V.heap.size (N + 1) y (.agg #[.int .i64 y.k, .string y.s, .slice an' y.ns.length cn', .slice ap' y.ps.length cp']) := (hy.below BV).more BV.size
  have FX := fun W (hb : Below V.heap.size V W) => few_any 14 (by omega) 14 rfl V.heap.size (N + 1) x _ W hb.size (RX.below hb)
  have FY := fun W (hb : Below V.heap.size V W) => few_any 14 (by omega) 14 rfl V.heap.size (N + 1) y _ W hb.size (RY.below hb)
  have bc : Below V.heap.size V V := Below.refl _ _
  obtain ⟨g0, g1, g2, g3, k0, k1, k2, k3⟩ := F _ bc
  have HX := Lib.hid RX
  have HY := Lib.hid RY
  have HV := Lib.hid hV
  have HND := Lib.hid hnd
  clear RX RY hx hy hV hnd
  cases hfx : fewB 14 x with
  | false =>
    rw [hfx] at FX
    clear hfx
    go_enter Tryd.func3, Tryd.ntmps3
    go_upto_region 1 with fail
    rw [← HV.out]
    go_wp2_with (first | ((go_at_call 7); (first | (with_reducible refine (FX _ bc).mono ?_) | (with_reducible refine (FY _ bc).mono ?_)); rintro e w1 ⟨rfl, b1⟩; have bc := bc.trans (b1.mono bc.size); obtain ⟨g0, g1, g2, g3, k0, k1, k2, k3⟩ := F _ bc) | ((go_at_call 8); (with_reducible refine (awake_true _).mono ?_); rintro e w9 ⟨rfl, b9⟩))
    go_ret
    exact ⟨rfl, BV.trans ((bc.trans (b9.mono bc.size)).mono BV.size)⟩
  | true =>
    rw [hfx] at FX
    clear hfx
    cases hfy : fewB 14 y with
    | false =>
      rw [hfy] at FY
      clear hfy
      go_enter Tryd.func3, Tryd.ntmps3
      go_upto_region 1 with fail
      rw [← HV.out]
      go_wp2_with (first | ((go_at_call 7); (first | (with_reducible refine (FX _ bc).mono ?_) | (with_reducible refine (FY _ bc).mono ?_)); rintro e w1 ⟨rfl, b1⟩; have bc := bc.trans (b1.mono bc.size); obtain ⟨g0, g1, g2, g3, k0, k1, k2, k3⟩ := F _ bc) | ((go_at_call 8); (with_reducible refine (awake_true _).mono ?_); rintro e w9 ⟨rfl, b9⟩))
      go_ret
      exact ⟨rfl, BV.trans ((bc.trans (b9.mono bc.size)).mono BV.size)⟩
    | true =>
      rw [hfy] at FY
      clear hfy
      by_cases h200 : 200 < s.size
      · have d2 : decide ((200 : Int) < s.size) = true := decide_eq_true (by omega)
        go_enter Tryd.func3, Tryd.ntmps3
        go_upto_region 1 with fail
        rw [← HV.out]
        go_wp2_with (first | ((go_at_call 7); (first | (with_reducible refine (FX _ bc).mono ?_) | (with_reducible refine (FY _ bc).mono ?_)); rintro e w1 ⟨rfl, b1⟩; have bc := bc.trans (b1.mono bc.size); obtain ⟨g0, g1, g2, g3, k0, k1, k2, k3⟩ := F _ bc) | ((go_at_call 8); (with_reducible refine (awake_true _).mono ?_); rintro e w9 ⟨rfl, b9⟩))
        go_ret
        exact ⟨rfl, BV.trans ((bc.trans (b9.mono bc.size)).mono BV.size)⟩
      · have d2 : decide ((200 : Int) < s.size) = false := decide_eq_false (by omega)
        have NP : ∀ W, Calls Tryd.prog 9 #[.string s] W (NumIs s.data.toList W) := fun W => number_any s W
        have NR := refnum_any s
        unfold NumIs at NP
        generalize numWhole s.data.toList = nw at *
        generalize numOk s.data.toList = no at *
        have GX : ∀ W, Below V.heap.size V W → Calls Tryd.prog 11 #[.agg #[.int .i64 x.k, .string x.s, .slice an x.ns.length cn, .slice ap x.ps.length cp], .string s] W (GetIs N (getJ x s) W) := fun W hb => get_any V.heap.size N x _ s W hb.size HND.out (HX.out.below hb)
        have GR : ∀ W, Below V.heap.size V W → Calls Tryd.prog 12 #[.agg #[.int .i64 x.k, .string x.s, .slice an x.ns.length cn, .slice ap x.ps.length cp], .string s] W (GetIs N (getJ x s) W) := fun W hb => refget_any V.heap.size N x _ s W hb.size (HX.out.below hb)
        obtain ⟨z, hz⟩ : ∃ z, (getJ x s).getD zeroJ = z := ⟨_, rfl⟩
        unfold GetIs at GX GR
        rw [hz] at GX GR
        clear hz
        generalize (getJ x s).isSome = go at *
        go_enter Tryd.func3, Tryd.ntmps3
        go_upto_region 1 with fail
        rw [← HV.out]
        go_upto_region 5 with (first | ((go_at_call 7); (first | (with_reducible refine (FX _ bc).mono ?_) | (with_reducible refine (FY _ bc).mono ?_)); rintro e w1 ⟨rfl, b1⟩; have bc := bc.trans (b1.mono bc.size); obtain ⟨g0, g1, g2, g3, k0, k1, k2, k3⟩ := F _ bc) | ((go_at_call 9); (with_reducible refine (NP _).mono ?_); rintro e w2 ⟨rfl, b2⟩; have bc := bc.trans (b2.mono bc.size); obtain ⟨g0, g1, g2, g3, k0, k1, k2, k3⟩ := F _ bc) | ((go_at_call 10); (with_reducible refine (NR _).mono ?_); rintro e w3 ⟨rfl, rfl⟩))
        clear FX FY NP NR d2
        go_upto_region 6 with ((go_at_call 11); (with_reducible refine (GX _ bc).mono ?_); rintro e w5 ⟨v5, rfl, hR5, b5⟩; obtain ⟨an5, cn5, ap5, cp5, rfl⟩ := hR5.shape; have bc := bc.trans (b5.mono bc.size))
        obtain ⟨W5, hW5⟩ : ∃ W5, W5 = w5.alloc (.cells #[.int .i64 z.k, .string z.s, .slice an5 z.ns.length cn5, .slice ap5 z.ps.length cp5] 25) := ⟨_, rfl⟩
        rw [← hW5]
        have hs5 : W5.heap.size = w5.heap.size + 1 := by rw [hW5]; simp
        have b55 : Below w5.heap.size w5 W5 := by rw [hW5]; exact (Below.refl _ w5).alloc (Nat.le_refl _) _
        have bc := bc.trans (b55.mono bc.size)
        have x5 : ∀ j, W5.cell? ⟨w5.heap.size, j, none⟩ = (#[.int .i64 z.k, .string z.s, .slice an5 z.ns.length cn5, .slice ap5 z.ps.length cp5] : Array Value)[j]? := fun j => by rw [hW5]; go_simp
        have HR5 := Lib.hid (hR5.below b55)
        have HX5 := Lib.hid x5
        clear hW5 hR5 x5 b55 GX
        obtain ⟨g0, g1, g2, g3, k0, k1, k2, k3⟩ := F _ bc
        go_upto_region 7 with ((go_at_call 12); (with_reducible refine (GR _ bc).mono ?_); rintro e w6 ⟨v6, rfl, hR6, b6⟩; obtain ⟨an6, cn6, ap6, cp6, rfl⟩ := hR6.shape; have bc := bc.trans (b6.mono bc.size))
        obtain ⟨U, hU⟩ : ∃ U, U = w6.alloc (.cells #[.int .i64 z.k, .string z.s, .slice an6 z.ns.length cn6, .slice ap6 z.ps.length cp6] 25) := ⟨_, rfl⟩
        rw [← hU]
        have hsU : U.heap.size = w6.heap.size + 1 := by rw [hU]; simp
        have hs6 : W5.heap.size ≤ w6.heap.size := b6.size
        have b66 : Below w6.heap.size w6 U := by rw [hU]; exact (Below.refl _ w6).alloc (Nat.le_refl _) _
        have b5U : Below W5.heap.size W5 U := b6.trans (b66.mono b6.size)
        have bU := bc.trans (b66.mono bc.size)
        have x6 : ∀ j, U.cell? ⟨w6.heap.size, j, none⟩ = (#[.int .i64 z.k, .string z.s, .slice an6 z.ns.length cn6, .slice ap6 z.ps.length cp6] : Array Value)[j]? := fun j => by rw [hU]; go_simp
        have FF : ∀ W, Below U.heap.size U W → W.cell? ⟨w.heap.size, 0, none⟩ = some (.int .i64 x.k) ∧ W.cell? ⟨w.heap.size, 1, none⟩ = some (.string x.s) ∧ W.cell? ⟨w.heap.size, 2, none⟩ = some (.slice an x.ns.length cn) ∧ W.cell? ⟨w.heap.size, 3, none⟩ = some (.slice ap x.ps.length cp) ∧ W.cell? ⟨w.heap.size + 1, 0, none⟩ = some (.int .i64 y.k) ∧ W.cell? ⟨w.heap.size + 1, 1, none⟩ = some (.string y.s) ∧ W.cell? ⟨w.heap.size + 1, 2, none⟩ = some (.slice an' y.ns.length cn') ∧ W.cell? ⟨w.heap.size + 1, 3, none⟩ = some (.slice ap' y.ps.length cp') ∧ W.cell? ⟨w5.heap.size, 0, none⟩ = some (.int .i64 z.k) ∧ W.cell? ⟨w5.heap.size, 1, none⟩ = some (.string z.s) ∧ W.cell? ⟨w5.heap.size, 2, none⟩ = some (.slice an5 z.ns.length cn5) ∧ W.cell? ⟨w5.heap.size, 3, none⟩ = some (.slice ap5 z.ps.length cp5) ∧ W.cell? ⟨w6.heap.size, 0, none⟩ = some (.int .i64 z.k) ∧ W.cell? ⟨w6.heap.size, 1, none⟩ = some (.string z.s) ∧ W.cell? ⟨w6.heap.size, 2, none⟩ = some (.slice an6 z.ns.length cn6) ∧ W.cell? ⟨w6.heap.size, 3, none⟩ = some (.slice ap6 z.ps.length cp6) := fun W hb => by
          obtain ⟨q0, q1, q2, q3, q4, q5, q6, q7⟩ := F W (bU.trans (hb.mono bU.size))
          have c5 : ∀ j, W.cell? ⟨w5.heap.size, j, none⟩ = (#[.int .i64 z.k, .string z.s, .slice an5 z.ns.length cn5, .slice ap5 z.ps.length cp5] : Array Value)[j]? := fun j => by
            rw [hb.cell (p := ⟨w5.heap.size, j, none⟩) (by show w5.heap.size < _; omega), b5U.cell (p := ⟨w5.heap.size, j, none⟩) (by show w5.heap.size < _; omega)]
            exact HX5.out j
          have c6 : ∀ j, W.cell? ⟨w6.heap.size, j, none⟩ = (#[.int .i64 z.k, .string z.s, .slice an6 z.ns.length cn6, .slice ap6 z.ps.length cp6] : Array Value)[j]? := fun j => by
            rw [hb.cell (p := ⟨w6.heap.size, j, none⟩) (by show w6.heap.size < _; omega)]
            exact x6 j
          exact ⟨q0, q1, q2, q3, q4, q5, q6, q7, c5 0, c5 1, c5 2, c5 3, c6 0, c6 1, c6 2, c6 3⟩
        have AX : Rd U U.heap.size (N + 1) x (.agg #[.int .i64 x.k, .string x.s, .slice an x.ns.length cn, .slice ap x.ps.length cp]) := (HX.out.below bU).more bU.size
        have AY : Rd U U.heap.size (N + 1) y (.agg #[.int .i64 y.k, .string y.s, .slice an' y.ns.length cn', .slice ap' y.ps.length cp']) := (HY.out.below bU).more bU.size
        have A5 : Rd U U.heap.size (N + 1) z (.agg #[.int .i64 z.k, .string z.s, .slice an5 z.ns.length cn5, .slice ap5 z.ps.length cp5]) := ((HR5.out.more (show w5.heap.size ≤ W5.heap.size by omega)).below b5U).more (by omega)
        have A6 : Rd U U.heap.size (N + 1) z (.agg #[.int .i64 z.k, .string z.s, .slice an6 z.ns.length cn6, .slice ap6 z.ps.length cp6]) := (hR6.below b66).more (by omega)
        have C1 := fun W (hb : Below U.heap.size U W) => check_any U.heap.size (N + 1) x _ W hb.size (AX.below hb)
        have C2 := fun W (hb : Below U.heap.size U W) => refCheck_any U.heap.size (N + 1) x _ W hb.size (AX.below hb)
        have T1 := fun W (hb : Below U.heap.size U W) => text_any U.heap.size (N + 1) x _ W hb.size (AX.below hb) (by omega)
        have T2 := fun W (hb : Below U.heap.size U W) => refText_any U.heap.size (N + 1) x _ W hb.size (AX.below hb) htx
        have S1 := fun W (hb : Below U.heap.size U W) => same_any U.heap.size (N + 1) x y _ _ W hb.size (by omega) (AX.below hb) (AY.below hb)
        have S2 := fun W (hb : Below U.heap.size U W) => refsame_any U.heap.size (N + 1) (N + 1) x y _ _ W hb.size (AX.below hb) (AY.below hb)
        have S3 := fun W (hb : Below U.heap.size U W) => refsame_any U.heap.size (N + 1) (N + 1) z z _ _ W hb.size (A5.below hb) (A6.below hb)
        unfold SameIs at S2 S3
        rw [eqB_true rfl] at S3
        rw [same_eq x y] at S2
        generalize chkAt 12 x = cc at *
        generalize textB x = tt at *
        generalize sameB x y = qq at *
        have BW := BV.trans (bU.mono BV.size)
        clear AX AY A5 A6 HR5 HX5 x6 b66 b5U bU hU hR6 b6 HX HY HV HND GR F htx g0 g1 g2 g3 k0 k1 k2 k3
        have bc : Below U.heap.size U U.drew := (Below.refl _ _).drew
        go_region_held3 (fun W => W.cell? ⟨w.heap.size, 0, none⟩ = some (.int .i64 x.k) ∧ W.cell? ⟨w.heap.size, 1, none⟩ = some (.string x.s) ∧ W.cell? ⟨w.heap.size, 2, none⟩ = some (.slice an x.ns.length cn) ∧ W.cell? ⟨w.heap.size, 3, none⟩ = some (.slice ap x.ps.length cp) ∧ W.cell? ⟨w.heap.size + 1, 0, none⟩ = some (.int .i64 y.k) ∧ W.cell? ⟨w.heap.size + 1, 1, none⟩ = some (.string y.s) ∧ W.cell? ⟨w.heap.size + 1, 2, none⟩ = some (.slice an' y.ns.length cn') ∧ W.cell? ⟨w.heap.size + 1, 3, none⟩ = some (.slice ap' y.ps.length cp') ∧ W.cell? ⟨w5.heap.size, 0, none⟩ = some (.int .i64 z.k) ∧ W.cell? ⟨w5.heap.size, 1, none⟩ = some (.string z.s) ∧ W.cell? ⟨w5.heap.size, 2, none⟩ = some (.slice an5 z.ns.length cn5) ∧ W.cell? ⟨w5.heap.size, 3, none⟩ = some (.slice ap5 z.ps.length cp5) ∧ W.cell? ⟨w6.heap.size, 0, none⟩ = some (.int .i64 z.k) ∧ W.cell? ⟨w6.heap.size, 1, none⟩ = some (.string z.s) ∧ W.cell? ⟨w6.heap.size, 2, none⟩ = some (.slice an6 z.ns.length cn6) ∧ W.cell? ⟨w6.heap.size, 3, none⟩ = some (.slice ap6 z.ps.length cp6)) (exact FF _ bc)
          (first
            | ((go_at_call 13); (with_reducible refine (C1 _ bc).mono ?_); rintro e w7 ⟨rfl, b7⟩; have bc := bc.trans (b7.mono bc.size))
            | ((go_at_call 14); (with_reducible refine (C2 _ bc).mono ?_); rintro e w7 ⟨rfl, b7⟩; have bc := bc.trans (b7.mono bc.size))
            | ((go_at_call 15); (with_reducible refine (T1 _ bc).mono ?_); rintro e w7 ⟨rfl, b7⟩; have bc := bc.trans (b7.mono bc.size))
            | ((go_at_call 16); (with_reducible refine (T2 _ bc).mono ?_); rintro e w7 ⟨rfl, b7⟩; have bc := bc.trans (b7.mono bc.size))
            | ((go_at_call 17); (with_reducible refine (S1 _ bc).mono ?_); rintro e w7 ⟨rfl, b7⟩; have bc := bc.trans (b7.mono bc.size))
            | ((go_at_call 18); (with_reducible refine (S2 _ bc).mono ?_); rintro e w7 ⟨rfl, b7⟩; have bc := bc.trans (b7.mono bc.size))
            | ((go_at_call 18); (with_reducible refine (S3 _ bc).mono ?_); rintro e w7 ⟨rfl, b7⟩; have bc := bc.trans (b7.mono bc.size))
            | ((go_at_call 8); (with_reducible refine (awake_true _).mono ?_); rintro e w7 ⟨rfl, b7⟩; have bc := bc.trans (b7.mono bc.size)))
        all_goals
          go_wp2_with fail
          go_ret
          exact ⟨rfl, BW.trans (bc.mono BW.size)⟩

end Go.Proofs.YthmoadkkadlefaaDoor
