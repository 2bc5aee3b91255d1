/-
  print.isSame: rows of type api.Arg.
-/
import Derived.Test.YtkfllppggjhhmaaGreatDoorMPis0
namespace Go.Proofs.YtkfllppggjhhmaaGreatDoor
open Go.RowKit
set_option linter.unusedVariables false

set_option maxHeartbeats 3000000 in
set_option maxRecDepth 100000 in
theorem eqfArg_any {D1 D2 : Nat → Prop} {xs ys : List ArgT} {v1 v2 : Value} (w : World) (h1 : RowD ArgE 5 w D1 xs v1) (h2 : RowD ArgE 5 w D2 ys v2) (hD1 : ∀ b, D1 b → b < w.heap.size) (hD2 : ∀ b, D2 b → b < w.heap.size)
    (hF : ∀ x ∈ xs, ∀ y ∈ ys, ∀ cs ds W, Below w.heap.size w W → ArgE W D1 x cs → ArgE W D2 y ds → Calls Tryz.prog 162 #[.agg cs.toArray, .agg ds.toArray] W (EqAns (x = y) W)) :
    Calls Tryz.prog 161 #[v1, v2, .func (.func 162) #[] #[]] w (EqAns (xs = ys) w) := by
  obtain ⟨a1, cap1, rfl, hx1, hcap1, hrow1⟩ := h1
  obtain ⟨a2, cap2, rfl, hx2, hcap2, hrow2⟩ := h2
  have HR1 := Lib.hid hrow1
  have HR2 := Lib.hid hrow2
  have HF := Lib.hid hF
  have HD1 := Lib.hid hD1
  have HD2 := Lib.hid hD2
  clear hrow1 hrow2 hF hD1 hD2
  by_cases hll : xs.length = ys.length
  · have HLL := Lib.hid hll
    rw [← hll] at hx2 hcap2 HR2 ⊢
    clear hll
    go_enter Tryz.func161, Tryz.ntmps161
    go_wp2_with fail
    go_loopg [7, 8, 9, 17] xs.length (fun j _ _ _ v17 wr => ∃ i : Nat, v17 = .int .i64 (i : Int) ∧ i ≤ xs.length ∧ j = xs.length - i ∧ Hid (xs.take i = ys.take i) ∧ Below w.heap.size w wr)
    case atStart => exact ⟨0, rfl, Nat.zero_le _, rfl, Lib.hid rfl, Below.refl _ _⟩
    case round =>
      obtain ⟨i, rfl, hi, hj, HT, hb⟩ := hrel
      have HB := Lib.hid hb
      have hw : IntKind.i64.wrap ((i : Int) + 1) = (i : Int) + 1 := IntWalk.i64_in _ (by omega)
      by_cases hlt : i < xs.length
      · have hd : decide ((i : Int) < (xs.length : Int)) = true := decide_eq_true (by omega)
        have hd2 : decide (i < xs.length) = true := decide_eq_true hlt
        have hlty : i < ys.length := by rw [← HLL.out]; exact hlt
        obtain ⟨g1, off1, rfl, hDg1, hel1⟩ := HR1.out (by omega)
        obtain ⟨g2, off2, rfl, hDg2, hel2⟩ := HR2.out (by omega)
        have hxi : xs[i]? = some xs[i] := List.getElem?_eq_getElem hlt
        have hyi : ys[i]? = some ys[i] := List.getElem?_eq_getElem hlty
        have hmx := List.getElem_mem hlt
        have hmy := List.getElem_mem hlty
        obtain ⟨cs, hcl1, hcsg1, hE1⟩ := hel1 i _ hxi
        obtain ⟨ds, hcl2, hcsg2, hE2⟩ := hel2 i _ hyi
        have HTK := Lib.hid (show xs[i] = ys[i] → xs.take (i + 1) = ys.take (i + 1) from fun h => by rw [List.take_add_one, List.take_add_one, HT.out, hxi, hyi, h])
        have HNE := Lib.hid (show xs[i] ≠ ys[i] → xs ≠ ys from fun h e => h (by
          have h3 : xs[i]? = ys[i]? := by rw [e]
          rw [hxi, hyi] at h3
          exact Option.some.inj h3))
        have hLHC := HF.out _ hmx _ hmy
        generalize xs[i] = x at *
        generalize ys[i] = y at *
        clear hxi hyi hmx hmy hlty
        obtain ⟨hz1, c0, c1, c2, c3, rfl, hR1⟩ := hE1
        obtain ⟨an1, cn1, ap1, cp1, hsh⟩ := hR1.shape
        obtain ⟨rfl, rfl, rfl, rfl⟩ := agg4_inj' hsh
        clear hsh
        obtain ⟨hz2, c0, c1, c2, c3, rfl, hR2⟩ := hE2
        obtain ⟨an2, cn2, ap2, cp2, hsh⟩ := hR2.shape
        obtain ⟨rfl, rfl, rfl, rfl⟩ := agg4_inj' hsh
        clear hsh
        have hgl1 : g1 < wr.heap.size := Nat.lt_of_lt_of_le (HD1.out g1 hDg1) hb.size
        have hgl2 : g2 < wr.heap.size := Nat.lt_of_lt_of_le (HD2.out g2 hDg2) hb.size
        have hg1c : ∀ o, wr.cell? ⟨g1, o, none⟩ = w.cell? ⟨g1, o, none⟩ := fun o => World.cell?_of_block (a := ⟨g1, o, none⟩) (hb.block g1 (HD1.out g1 hDg1))
        have hg2c : ∀ o, wr.cell? ⟨g2, o, none⟩ = w.cell? ⟨g2, o, none⟩ := fun o => World.cell?_of_block (a := ⟨g2, o, none⟩) (hb.block g2 (HD2.out g2 hDg2))
        have k0 : wr.cell? ⟨g1, off1 + i * 5, none⟩ = some (.string ⟨x.1.toArray⟩) := (hg1c _).trans (hcsg1 0 _ rfl)
        have k1 : wr.cell? ⟨g1, off1 + i * 5 + 1, none⟩ = some (.int .i64 x.2.k) := (hg1c _).trans (hcsg1 1 _ rfl)
        have k2 : wr.cell? ⟨g1, off1 + i * 5 + 2, none⟩ = some (.string x.2.s) := (hg1c _).trans (hcsg1 2 _ rfl)
        have k3 : wr.cell? ⟨g1, off1 + i * 5 + 3, none⟩ = some (.slice an1 x.2.ns.length cn1) := (hg1c _).trans (hcsg1 3 _ rfl)
        have k4 : wr.cell? ⟨g1, off1 + i * 5 + 4, none⟩ = some (.slice ap1 x.2.ps.length cp1) := (hg1c _).trans (hcsg1 4 _ rfl)
        have j0 : wr.cell? ⟨g2, off2 + i * 5, none⟩ = some (.string ⟨y.1.toArray⟩) := (hg2c _).trans (hcsg2 0 _ rfl)
        have j1 : wr.cell? ⟨g2, off2 + i * 5 + 1, none⟩ = some (.int .i64 y.2.k) := (hg2c _).trans (hcsg2 1 _ rfl)
        have j2 : wr.cell? ⟨g2, off2 + i * 5 + 2, none⟩ = some (.string y.2.s) := (hg2c _).trans (hcsg2 2 _ rfl)
        have j3 : wr.cell? ⟨g2, off2 + i * 5 + 3, none⟩ = some (.slice an2 y.2.ns.length cn2) := (hg2c _).trans (hcsg2 3 _ rfl)
        have j4 : wr.cell? ⟨g2, off2 + i * 5 + 4, none⟩ = some (.slice ap2 y.2.ps.length cp2) := (hg2c _).trans (hcsg2 4 _ rfl)
        have hicp1 : i < cap1 := by omega
        have hicp2 : i < cap2 := by omega
        have HW := Lib.hid ((hb.alloc hb.size (.cells #[.string ⟨x.1.toArray⟩, .int .i64 x.2.k, .string x.2.s, .slice an1 x.2.ns.length cn1, .slice ap1 x.2.ps.length cp1] 55)).alloc (by have := hb.size; simp; omega) (.cells #[.string ⟨y.1.toArray⟩, .int .i64 y.2.k, .string y.2.s, .slice an2 y.2.ns.length cn2, .slice ap2 y.2.ps.length cp2] 55))
        have hE1' : ArgE ((wr.alloc (.cells #[.string ⟨x.1.toArray⟩, .int .i64 x.2.k, .string x.2.s, .slice an1 x.2.ns.length cn1, .slice ap1 x.2.ps.length cp1] 55)).alloc (.cells #[.string ⟨y.1.toArray⟩, .int .i64 y.2.k, .string y.2.s, .slice an2 y.2.ns.length cn2, .slice ap2 y.2.ps.length cp2] 55)) D1 x [.string ⟨x.1.toArray⟩, .int .i64 x.2.k, .string x.2.s, .slice an1 x.2.ns.length cn1, .slice ap1 x.2.ps.length cp1] := (argOk).step (fun _ h => h) (fun b o hb' => World.cell?_of_block (a := ⟨b, o, none⟩) (HW.out.block b (HD1.out b hb'))) ⟨hz1, _, _, _, _, rfl, hR1⟩
        have hE2' : ArgE ((wr.alloc (.cells #[.string ⟨x.1.toArray⟩, .int .i64 x.2.k, .string x.2.s, .slice an1 x.2.ns.length cn1, .slice ap1 x.2.ps.length cp1] 55)).alloc (.cells #[.string ⟨y.1.toArray⟩, .int .i64 y.2.k, .string y.2.s, .slice an2 y.2.ns.length cn2, .slice ap2 y.2.ps.length cp2] 55)) D2 y [.string ⟨y.1.toArray⟩, .int .i64 y.2.k, .string y.2.s, .slice an2 y.2.ns.length cn2, .slice ap2 y.2.ps.length cp2] := (argOk).step (fun _ h => h) (fun b o hb' => World.cell?_of_block (a := ⟨b, o, none⟩) (HW.out.block b (HD2.out b hb'))) ⟨hz2, _, _, _, _, rfl, hR2⟩
        have HCL : Calls Tryz.prog 162 #[.agg #[.string ⟨x.1.toArray⟩, .int .i64 x.2.k, .string x.2.s, .slice an1 x.2.ns.length cn1, .slice ap1 x.2.ps.length cp1], .agg #[.string ⟨y.1.toArray⟩, .int .i64 y.2.k, .string y.2.s, .slice an2 y.2.ns.length cn2, .slice ap2 y.2.ps.length cp2]] ((wr.alloc (.cells #[.string ⟨x.1.toArray⟩, .int .i64 x.2.k, .string x.2.s, .slice an1 x.2.ns.length cn1, .slice ap1 x.2.ps.length cp1] 55)).alloc (.cells #[.string ⟨y.1.toArray⟩, .int .i64 y.2.k, .string y.2.s, .slice an2 y.2.ns.length cn2, .slice ap2 y.2.ps.length cp2] 55)) _ := hLHC [.string ⟨x.1.toArray⟩, .int .i64 x.2.k, .string x.2.s, .slice an1 x.2.ns.length cn1, .slice ap1 x.2.ps.length cp1] [.string ⟨y.1.toArray⟩, .int .i64 y.2.k, .string y.2.s, .slice an2 y.2.ns.length cn2, .slice ap2 y.2.ps.length cp2] _ HW.out hE1' hE2'
        have hszw : wr.heap.size ≤ ((wr.alloc (.cells #[.string ⟨x.1.toArray⟩, .int .i64 x.2.k, .string x.2.s, .slice an1 x.2.ns.length cn1, .slice ap1 x.2.ps.length cp1] 55)).alloc (.cells #[.string ⟨y.1.toArray⟩, .int .i64 y.2.k, .string y.2.s, .slice an2 y.2.ns.length cn2, .slice ap2 y.2.ps.length cp2] 55)).heap.size := by simp; omega
        clear hb hel1 hel2 hcsg1 hcsg2 hE1' hE2' hg1c hg2c hcl1 hcl2 hR1 hR2 hLHC
        have HSZ := Lib.hid (Nat.le_trans HB.out.size hszw)
        clear hszw
        go_wp2_with fail
        refine HCL.mono ?_
        rintro e w2 ⟨r, rfl, hr, hb2⟩
        have HB3 := Lib.hid (HW.out.trans (hb2.mono HSZ.out))
        clear hb2 HCL
        cases r with
        | true =>
          have HE := Lib.hid (HTK.out (hr.1 rfl))
          clear hr
          go_wp2_with fail
          go_roundg (xs.length - (i + 1))
          case measure => omega
          case rel => exact ⟨i + 1, by simp, by omega, rfl, HE, HB3.out⟩
        | false =>
          have HE := Lib.hid (HNE.out (fun h => by have := hr.2 h; cases this))
          clear hr
          go_wp2_with fail
          go_ret
          exact ⟨false, rfl, ⟨(fun h => by cases h), fun h => absurd h HE.out⟩, HB3.out⟩
      · have hd : decide ((i : Int) < (xs.length : Int)) = false := decide_eq_false (by omega)
        have hd2 : decide (i < xs.length) = false := decide_eq_false hlt
        have HE := Lib.hid (show xs = ys by
          have := HT.out
          rwa [List.take_of_length_le (by omega), List.take_of_length_le (by rw [← HLL.out]; omega)] at this)
        clear hb
        go_wp2_with fail
        go_ret
        exact ⟨true, rfl, ⟨fun _ => HE.out, fun _ => rfl⟩, HB.out⟩
  · have h1 : ((xs.length : Int) == (ys.length : Int)) = false := by rw [beq_eq_false_iff_ne]; omega
    have h2 : ((xs.length : Int) != (ys.length : Int)) = true := by unfold bne; rw [h1]; rfl
    have h3 : (xs.length == ys.length) = false := by rw [beq_eq_false_iff_ne]; omega
    have HE := Lib.hid (show xs ≠ ys from fun e => hll (by rw [e]))
    clear HR1 HR2 HF HD1 HD2
    go_enter Tryz.func161, Tryz.ntmps161
    go_wp2_with fail
    go_ret
    exact ⟨false, rfl, ⟨(fun h => by cases h), fun h => absurd h HE.out⟩, Below.refl _ _⟩

end Go.Proofs.YtkfllppggjhhmaaGreatDoor
/-
  print.isSame: rows of type api.Dir.
-/
namespace Go.Proofs.YtkfllppggjhhmaaGreatDoor
open Go.RowKit
set_option linter.unusedVariables false

set_option maxHeartbeats 3000000 in
set_option maxRecDepth 100000 in
theorem eqfDir_any {D1 D2 : Nat → Prop} {xs ys : List DirT} {v1 v2 : Value} (w : World) (h1 : RowD DirE 2 w D1 xs v1) (h2 : RowD DirE 2 w D2 ys v2) (hD1 : ∀ b, D1 b → b < w.heap.size) (hD2 : ∀ b, D2 b → b < w.heap.size)
    (hF : ∀ x ∈ xs, ∀ y ∈ ys, ∀ cs ds W, Below w.heap.size w W → DirE W D1 x cs → DirE W D2 y ds → Calls Tryz.prog 116 #[.agg cs.toArray, .agg ds.toArray] W (EqAns (x = y) W)) :
    Calls Tryz.prog 115 #[v1, v2, .func (.func 116) #[] #[]] w (EqAns (xs = ys) w) := by
  obtain ⟨a1, cap1, rfl, hx1, hcap1, hrow1⟩ := h1
  obtain ⟨a2, cap2, rfl, hx2, hcap2, hrow2⟩ := h2
  have HR1 := Lib.hid hrow1
  have HR2 := Lib.hid hrow2
  have HF := Lib.hid hF
  have HD1 := Lib.hid hD1
  have HD2 := Lib.hid hD2
  clear hrow1 hrow2 hF hD1 hD2
  by_cases hll : xs.length = ys.length
  · have HLL := Lib.hid hll
    rw [← hll] at hx2 hcap2 HR2 ⊢
    clear hll
    go_enter Tryz.func115, Tryz.ntmps115
    go_wp2_with fail
    go_loopg [7, 8, 9, 17] xs.length (fun j _ _ _ v17 wr => ∃ i : Nat, v17 = .int .i64 (i : Int) ∧ i ≤ xs.length ∧ j = xs.length - i ∧ Hid (xs.take i = ys.take i) ∧ Below w.heap.size w wr)
    case atStart => exact ⟨0, rfl, Nat.zero_le _, rfl, Lib.hid rfl, Below.refl _ _⟩
    case round =>
      obtain ⟨i, rfl, hi, hj, HT, hb⟩ := hrel
      have HB := Lib.hid hb
      have hw : IntKind.i64.wrap ((i : Int) + 1) = (i : Int) + 1 := IntWalk.i64_in _ (by omega)
      by_cases hlt : i < xs.length
      · have hd : decide ((i : Int) < (xs.length : Int)) = true := decide_eq_true (by omega)
        have hd2 : decide (i < xs.length) = true := decide_eq_true hlt
        have hlty : i < ys.length := by rw [← HLL.out]; exact hlt
        obtain ⟨g1, off1, rfl, hDg1, hel1⟩ := HR1.out (by omega)
        obtain ⟨g2, off2, rfl, hDg2, hel2⟩ := HR2.out (by omega)
        have hxi : xs[i]? = some xs[i] := List.getElem?_eq_getElem hlt
        have hyi : ys[i]? = some ys[i] := List.getElem?_eq_getElem hlty
        have hmx := List.getElem_mem hlt
        have hmy := List.getElem_mem hlty
        obtain ⟨cs, hcl1, hcsg1, hE1⟩ := hel1 i _ hxi
        obtain ⟨ds, hcl2, hcsg2, hE2⟩ := hel2 i _ hyi
        have HTK := Lib.hid (show xs[i] = ys[i] → xs.take (i + 1) = ys.take (i + 1) from fun h => by rw [List.take_add_one, List.take_add_one, HT.out, hxi, hyi, h])
        have HNE := Lib.hid (show xs[i] ≠ ys[i] → xs ≠ ys from fun h e => h (by
          have h3 : xs[i]? = ys[i]? := by rw [e]
          rw [hxi, hyi] at h3
          exact Option.some.inj h3))
        have hLHC := HF.out _ hmx _ hmy
        generalize xs[i] = x at *
        generalize ys[i] = y at *
        clear hxi hyi hmx hmy hlty
        obtain ⟨hz1, v0, rfl, hR1⟩ := hE1
        obtain ⟨an1, cn1, rfl⟩ := hR1.shape
        obtain ⟨hz2, v0, rfl, hR2⟩ := hE2
        obtain ⟨an2, cn2, rfl⟩ := hR2.shape
        have hgl1 : g1 < wr.heap.size := Nat.lt_of_lt_of_le (HD1.out g1 hDg1) hb.size
        have hgl2 : g2 < wr.heap.size := Nat.lt_of_lt_of_le (HD2.out g2 hDg2) hb.size
        have hg1c : ∀ o, wr.cell? ⟨g1, o, none⟩ = w.cell? ⟨g1, o, none⟩ := fun o => World.cell?_of_block (a := ⟨g1, o, none⟩) (hb.block g1 (HD1.out g1 hDg1))
        have hg2c : ∀ o, wr.cell? ⟨g2, o, none⟩ = w.cell? ⟨g2, o, none⟩ := fun o => World.cell?_of_block (a := ⟨g2, o, none⟩) (hb.block g2 (HD2.out g2 hDg2))
        have k0 : wr.cell? ⟨g1, off1 + i * 2, none⟩ = some (.string ⟨x.1.toArray⟩) := (hg1c _).trans (hcsg1 0 _ rfl)
        have k1 : wr.cell? ⟨g1, off1 + i * 2 + 1, none⟩ = some (.slice an1 x.2.length cn1) := (hg1c _).trans (hcsg1 1 _ rfl)
        have j0 : wr.cell? ⟨g2, off2 + i * 2, none⟩ = some (.string ⟨y.1.toArray⟩) := (hg2c _).trans (hcsg2 0 _ rfl)
        have j1 : wr.cell? ⟨g2, off2 + i * 2 + 1, none⟩ = some (.slice an2 y.2.length cn2) := (hg2c _).trans (hcsg2 1 _ rfl)
        have hicp1 : i < cap1 := by omega
        have hicp2 : i < cap2 := by omega
        have HW := Lib.hid ((hb.alloc hb.size (.cells #[.string ⟨x.1.toArray⟩, .slice an1 x.2.length cn1] 67)).alloc (by have := hb.size; simp; omega) (.cells #[.string ⟨y.1.toArray⟩, .slice an2 y.2.length cn2] 67))
        have hE1' : DirE ((wr.alloc (.cells #[.string ⟨x.1.toArray⟩, .slice an1 x.2.length cn1] 67)).alloc (.cells #[.string ⟨y.1.toArray⟩, .slice an2 y.2.length cn2] 67)) D1 x [.string ⟨x.1.toArray⟩, .slice an1 x.2.length cn1] := (dirOk).step (fun _ h => h) (fun b o hb' => World.cell?_of_block (a := ⟨b, o, none⟩) (HW.out.block b (HD1.out b hb'))) ⟨hz1, _, rfl, hR1⟩
        have hE2' : DirE ((wr.alloc (.cells #[.string ⟨x.1.toArray⟩, .slice an1 x.2.length cn1] 67)).alloc (.cells #[.string ⟨y.1.toArray⟩, .slice an2 y.2.length cn2] 67)) D2 y [.string ⟨y.1.toArray⟩, .slice an2 y.2.length cn2] := (dirOk).step (fun _ h => h) (fun b o hb' => World.cell?_of_block (a := ⟨b, o, none⟩) (HW.out.block b (HD2.out b hb'))) ⟨hz2, _, rfl, hR2⟩
        have HCL : Calls Tryz.prog 116 #[.agg #[.string ⟨x.1.toArray⟩, .slice an1 x.2.length cn1], .agg #[.string ⟨y.1.toArray⟩, .slice an2 y.2.length cn2]] ((wr.alloc (.cells #[.string ⟨x.1.toArray⟩, .slice an1 x.2.length cn1] 67)).alloc (.cells #[.string ⟨y.1.toArray⟩, .slice an2 y.2.length cn2] 67)) _ := hLHC [.string ⟨x.1.toArray⟩, .slice an1 x.2.length cn1] [.string ⟨y.1.toArray⟩, .slice an2 y.2.length cn2] _ HW.out hE1' hE2'
        have hszw : wr.heap.size ≤ ((wr.alloc (.cells #[.string ⟨x.1.toArray⟩, .slice an1 x.2.length cn1] 67)).alloc (.cells #[.string ⟨y.1.toArray⟩, .slice an2 y.2.length cn2] 67)).heap.size := by simp; omega
        clear hb hel1 hel2 hcsg1 hcsg2 hE1' hE2' hg1c hg2c hcl1 hcl2 hR1 hR2 hLHC
        have HSZ := Lib.hid (Nat.le_trans HB.out.size hszw)
        clear hszw
        go_wp2_with fail
        refine HCL.mono ?_
        rintro e w2 ⟨r, rfl, hr, hb2⟩
        have HB3 := Lib.hid (HW.out.trans (hb2.mono HSZ.out))
        clear hb2 HCL
        cases r with
        | true =>
          have HE := Lib.hid (HTK.out (hr.1 rfl))
          clear hr
          go_wp2_with fail
          go_roundg (xs.length - (i + 1))
          case measure => omega
          case rel => exact ⟨i + 1, by simp, by omega, rfl, HE, HB3.out⟩
        | false =>
          have HE := Lib.hid (HNE.out (fun h => by have := hr.2 h; cases this))
          clear hr
          go_wp2_with fail
          go_ret
          exact ⟨false, rfl, ⟨(fun h => by cases h), fun h => absurd h HE.out⟩, HB3.out⟩
      · have hd : decide ((i : Int) < (xs.length : Int)) = false := decide_eq_false (by omega)
        have hd2 : decide (i < xs.length) = false := decide_eq_false hlt
        have HE := Lib.hid (show xs = ys by
          have := HT.out
          rwa [List.take_of_length_le (by omega), List.take_of_length_le (by rw [← HLL.out]; omega)] at this)
        clear hb
        go_wp2_with fail
        go_ret
        exact ⟨true, rfl, ⟨fun _ => HE.out, fun _ => rfl⟩, HB.out⟩
  · have h1 : ((xs.length : Int) == (ys.length : Int)) = false := by rw [beq_eq_false_iff_ne]; omega
    have h2 : ((xs.length : Int) != (ys.length : Int)) = true := by unfold bne; rw [h1]; rfl
    have h3 : (xs.length == ys.length) = false := by rw [beq_eq_false_iff_ne]; omega
    have HE := Lib.hid (show xs ≠ ys from fun e => hll (by rw [e]))
    clear HR1 HR2 HF HD1 HD2
    go_enter Tryz.func115, Tryz.ntmps115
    go_wp2_with fail
    go_ret
    exact ⟨false, rfl, ⟨(fun h => by cases h), fun h => absurd h HE.out⟩, Below.refl _ _⟩

end Go.Proofs.YtkfllppggjhhmaaGreatDoor
/-
  print.isSame: rows of type api.VarDef.
-/
namespace Go.Proofs.YtkfllppggjhhmaaGreatDoor
open Go.RowKit
set_option linter.unusedVariables false

set_option maxHeartbeats 3000000 in
set_option maxRecDepth 100000 in
theorem eqfVar_any {D1 D2 : Nat → Prop} {xs ys : List VarT} {v1 v2 : Value} (w : World) (h1 : RowD VarE 7 w D1 xs v1) (h2 : RowD VarE 7 w D2 ys v2) (hD1 : ∀ b, D1 b → b < w.heap.size) (hD2 : ∀ b, D2 b → b < w.heap.size)
    (hF : ∀ x ∈ xs, ∀ y ∈ ys, ∀ cs ds W, Below w.heap.size w W → VarE W D1 x cs → VarE W D2 y ds → Calls Tryz.prog 114 #[.agg cs.toArray, .agg ds.toArray] W (EqAns (x = y) W)) :
    Calls Tryz.prog 113 #[v1, v2, .func (.func 114) #[] #[]] w (EqAns (xs = ys) w) := by
  obtain ⟨a1, cap1, rfl, hx1, hcap1, hrow1⟩ := h1
  obtain ⟨a2, cap2, rfl, hx2, hcap2, hrow2⟩ := h2
  have HR1 := Lib.hid hrow1
  have HR2 := Lib.hid hrow2
  have HF := Lib.hid hF
  have HD1 := Lib.hid hD1
  have HD2 := Lib.hid hD2
  clear hrow1 hrow2 hF hD1 hD2
  by_cases hll : xs.length = ys.length
  · have HLL := Lib.hid hll
    rw [← hll] at hx2 hcap2 HR2 ⊢
    clear hll
    go_enter Tryz.func113, Tryz.ntmps113
    go_wp2_with fail
    go_loopg [7, 8, 9, 17] xs.length (fun j _ _ _ v17 wr => ∃ i : Nat, v17 = .int .i64 (i : Int) ∧ i ≤ xs.length ∧ j = xs.length - i ∧ Hid (xs.take i = ys.take i) ∧ Below w.heap.size w wr)
    case atStart => exact ⟨0, rfl, Nat.zero_le _, rfl, Lib.hid rfl, Below.refl _ _⟩
    case round =>
      obtain ⟨i, rfl, hi, hj, HT, hb⟩ := hrel
      have HB := Lib.hid hb
      have hw : IntKind.i64.wrap ((i : Int) + 1) = (i : Int) + 1 := IntWalk.i64_in _ (by omega)
      by_cases hlt : i < xs.length
      · have hd : decide ((i : Int) < (xs.length : Int)) = true := decide_eq_true (by omega)
        have hd2 : decide (i < xs.length) = true := decide_eq_true hlt
        have hlty : i < ys.length := by rw [← HLL.out]; exact hlt
        obtain ⟨g1, off1, rfl, hDg1, hel1⟩ := HR1.out (by omega)
        obtain ⟨g2, off2, rfl, hDg2, hel2⟩ := HR2.out (by omega)
        have hxi : xs[i]? = some xs[i] := List.getElem?_eq_getElem hlt
        have hyi : ys[i]? = some ys[i] := List.getElem?_eq_getElem hlty
        have hmx := List.getElem_mem hlt
        have hmy := List.getElem_mem hlty
        obtain ⟨cs, hcl1, hcsg1, hE1⟩ := hel1 i _ hxi
        obtain ⟨ds, hcl2, hcsg2, hE2⟩ := hel2 i _ hyi
        have HTK := Lib.hid (show xs[i] = ys[i] → xs.take (i + 1) = ys.take (i + 1) from fun h => by rw [List.take_add_one, List.take_add_one, HT.out, hxi, hyi, h])
        have HNE := Lib.hid (show xs[i] ≠ ys[i] → xs ≠ ys from fun h e => h (by
          have h3 : xs[i]? = ys[i]? := by rw [e]
          rw [hxi, hyi] at h3
          exact Option.some.inj h3))
        have hLHC := HF.out _ hmx _ hmy
        generalize xs[i] = x at *
        generalize ys[i] = y at *
        clear hxi hyi hmx hmy hlty
        obtain ⟨hz1, c0, c1, c2, c3, rfl, hR1⟩ := hE1
        obtain ⟨an1, cn1, ap1, cp1, hsh⟩ := hR1.shape
        obtain ⟨rfl, rfl, rfl, rfl⟩ := agg4_inj' hsh
        clear hsh
        obtain ⟨hz2, c0, c1, c2, c3, rfl, hR2⟩ := hE2
        obtain ⟨an2, cn2, ap2, cp2, hsh⟩ := hR2.shape
        obtain ⟨rfl, rfl, rfl, rfl⟩ := agg4_inj' hsh
        clear hsh
        have hgl1 : g1 < wr.heap.size := Nat.lt_of_lt_of_le (HD1.out g1 hDg1) hb.size
        have hgl2 : g2 < wr.heap.size := Nat.lt_of_lt_of_le (HD2.out g2 hDg2) hb.size
        have hg1c : ∀ o, wr.cell? ⟨g1, o, none⟩ = w.cell? ⟨g1, o, none⟩ := fun o => World.cell?_of_block (a := ⟨g1, o, none⟩) (hb.block g1 (HD1.out g1 hDg1))
        have hg2c : ∀ o, wr.cell? ⟨g2, o, none⟩ = w.cell? ⟨g2, o, none⟩ := fun o => World.cell?_of_block (a := ⟨g2, o, none⟩) (hb.block g2 (HD2.out g2 hDg2))
        have k0 : wr.cell? ⟨g1, off1 + i * 7, none⟩ = some (.string ⟨x.nm.toArray⟩) := (hg1c _).trans (hcsg1 0 _ rfl)
        have k1 : wr.cell? ⟨g1, off1 + i * 7 + 1, none⟩ = some (.string ⟨x.ty.1.toArray⟩) := (hg1c _).trans (hcsg1 1 _ rfl)
        have k2 : wr.cell? ⟨g1, off1 + i * 7 + 2, none⟩ = some (.string ⟨x.ty.2.toArray⟩) := (hg1c _).trans (hcsg1 2 _ rfl)
        have k3 : wr.cell? ⟨g1, off1 + i * 7 + 3, none⟩ = some (.int .i64 x.dflt.k) := (hg1c _).trans (hcsg1 3 _ rfl)
        have k4 : wr.cell? ⟨g1, off1 + i * 7 + 4, none⟩ = some (.string x.dflt.s) := (hg1c _).trans (hcsg1 4 _ rfl)
        have k5 : wr.cell? ⟨g1, off1 + i * 7 + 5, none⟩ = some (.slice an1 x.dflt.ns.length cn1) := (hg1c _).trans (hcsg1 5 _ rfl)
        have k6 : wr.cell? ⟨g1, off1 + i * 7 + 6, none⟩ = some (.slice ap1 x.dflt.ps.length cp1) := (hg1c _).trans (hcsg1 6 _ rfl)
        have j0 : wr.cell? ⟨g2, off2 + i * 7, none⟩ = some (.string ⟨y.nm.toArray⟩) := (hg2c _).trans (hcsg2 0 _ rfl)
        have j1 : wr.cell? ⟨g2, off2 + i * 7 + 1, none⟩ = some (.string ⟨y.ty.1.toArray⟩) := (hg2c _).trans (hcsg2 1 _ rfl)
        have j2 : wr.cell? ⟨g2, off2 + i * 7 + 2, none⟩ = some (.string ⟨y.ty.2.toArray⟩) := (hg2c _).trans (hcsg2 2 _ rfl)
        have j3 : wr.cell? ⟨g2, off2 + i * 7 + 3, none⟩ = some (.int .i64 y.dflt.k) := (hg2c _).trans (hcsg2 3 _ rfl)
        have j4 : wr.cell? ⟨g2, off2 + i * 7 + 4, none⟩ = some (.string y.dflt.s) := (hg2c _).trans (hcsg2 4 _ rfl)
        have j5 : wr.cell? ⟨g2, off2 + i * 7 + 5, none⟩ = some (.slice an2 y.dflt.ns.length cn2) := (hg2c _).trans (hcsg2 5 _ rfl)
        have j6 : wr.cell? ⟨g2, off2 + i * 7 + 6, none⟩ = some (.slice ap2 y.dflt.ps.length cp2) := (hg2c _).trans (hcsg2 6 _ rfl)
        have hicp1 : i < cap1 := by omega
        have hicp2 : i < cap2 := by omega
        have HW := Lib.hid ((hb.alloc hb.size (.cells #[.string ⟨x.nm.toArray⟩, .string ⟨x.ty.1.toArray⟩, .string ⟨x.ty.2.toArray⟩, .int .i64 x.dflt.k, .string x.dflt.s, .slice an1 x.dflt.ns.length cn1, .slice ap1 x.dflt.ps.length cp1] 59)).alloc (by have := hb.size; simp; omega) (.cells #[.string ⟨y.nm.toArray⟩, .string ⟨y.ty.1.toArray⟩, .string ⟨y.ty.2.toArray⟩, .int .i64 y.dflt.k, .string y.dflt.s, .slice an2 y.dflt.ns.length cn2, .slice ap2 y.dflt.ps.length cp2] 59))
        have hE1' : VarE ((wr.alloc (.cells #[.string ⟨x.nm.toArray⟩, .string ⟨x.ty.1.toArray⟩, .string ⟨x.ty.2.toArray⟩, .int .i64 x.dflt.k, .string x.dflt.s, .slice an1 x.dflt.ns.length cn1, .slice ap1 x.dflt.ps.length cp1] 59)).alloc (.cells #[.string ⟨y.nm.toArray⟩, .string ⟨y.ty.1.toArray⟩, .string ⟨y.ty.2.toArray⟩, .int .i64 y.dflt.k, .string y.dflt.s, .slice an2 y.dflt.ns.length cn2, .slice ap2 y.dflt.ps.length cp2] 59)) D1 x [.string ⟨x.nm.toArray⟩, .string ⟨x.ty.1.toArray⟩, .string ⟨x.ty.2.toArray⟩, .int .i64 x.dflt.k, .string x.dflt.s, .slice an1 x.dflt.ns.length cn1, .slice ap1 x.dflt.ps.length cp1] := (varOk).step (fun _ h => h) (fun b o hb' => World.cell?_of_block (a := ⟨b, o, none⟩) (HW.out.block b (HD1.out b hb'))) ⟨hz1, _, _, _, _, rfl, hR1⟩
        have hE2' : VarE ((wr.alloc (.cells #[.string ⟨x.nm.toArray⟩, .string ⟨x.ty.1.toArray⟩, .string ⟨x.ty.2.toArray⟩, .int .i64 x.dflt.k, .string x.dflt.s, .slice an1 x.dflt.ns.length cn1, .slice ap1 x.dflt.ps.length cp1] 59)).alloc (.cells #[.string ⟨y.nm.toArray⟩, .string ⟨y.ty.1.toArray⟩, .string ⟨y.ty.2.toArray⟩, .int .i64 y.dflt.k, .string y.dflt.s, .slice an2 y.dflt.ns.length cn2, .slice ap2 y.dflt.ps.length cp2] 59)) D2 y [.string ⟨y.nm.toArray⟩, .string ⟨y.ty.1.toArray⟩, .string ⟨y.ty.2.toArray⟩, .int .i64 y.dflt.k, .string y.dflt.s, .slice an2 y.dflt.ns.length cn2, .slice ap2 y.dflt.ps.length cp2] := (varOk).step (fun _ h => h) (fun b o hb' => World.cell?_of_block (a := ⟨b, o, none⟩) (HW.out.block b (HD2.out b hb'))) ⟨hz2, _, _, _, _, rfl, hR2⟩
        have HCL : Calls Tryz.prog 114 #[.agg #[.string ⟨x.nm.toArray⟩, .string ⟨x.ty.1.toArray⟩, .string ⟨x.ty.2.toArray⟩, .int .i64 x.dflt.k, .string x.dflt.s, .slice an1 x.dflt.ns.length cn1, .slice ap1 x.dflt.ps.length cp1], .agg #[.string ⟨y.nm.toArray⟩, .string ⟨y.ty.1.toArray⟩, .string ⟨y.ty.2.toArray⟩, .int .i64 y.dflt.k, .string y.dflt.s, .slice an2 y.dflt.ns.length cn2, .slice ap2 y.dflt.ps.length cp2]] ((wr.alloc (.cells #[.string ⟨x.nm.toArray⟩, .string ⟨x.ty.1.toArray⟩, .string ⟨x.ty.2.toArray⟩, .int .i64 x.dflt.k, .string x.dflt.s, .slice an1 x.dflt.ns.length cn1, .slice ap1 x.dflt.ps.length cp1] 59)).alloc (.cells #[.string ⟨y.nm.toArray⟩, .string ⟨y.ty.1.toArray⟩, .string ⟨y.ty.2.toArray⟩, .int .i64 y.dflt.k, .string y.dflt.s, .slice an2 y.dflt.ns.length cn2, .slice ap2 y.dflt.ps.length cp2] 59)) _ := hLHC [.string ⟨x.nm.toArray⟩, .string ⟨x.ty.1.toArray⟩, .string ⟨x.ty.2.toArray⟩, .int .i64 x.dflt.k, .string x.dflt.s, .slice an1 x.dflt.ns.length cn1, .slice ap1 x.dflt.ps.length cp1] [.string ⟨y.nm.toArray⟩, .string ⟨y.ty.1.toArray⟩, .string ⟨y.ty.2.toArray⟩, .int .i64 y.dflt.k, .string y.dflt.s, .slice an2 y.dflt.ns.length cn2, .slice ap2 y.dflt.ps.length cp2] _ HW.out hE1' hE2'
        have hszw : wr.heap.size ≤ ((wr.alloc (.cells #[.string ⟨x.nm.toArray⟩, .string ⟨x.ty.1.toArray⟩, .string ⟨x.ty.2.toArray⟩, .int .i64 x.dflt.k, .string x.dflt.s, .slice an1 x.dflt.ns.length cn1, .slice ap1 x.dflt.ps.length cp1] 59)).alloc (.cells #[.string ⟨y.nm.toArray⟩, .string ⟨y.ty.1.toArray⟩, .string ⟨y.ty.2.toArray⟩, .int .i64 y.dflt.k, .string y.dflt.s, .slice an2 y.dflt.ns.length cn2, .slice ap2 y.dflt.ps.length cp2] 59)).heap.size := by simp; omega
        clear hb hel1 hel2 hcsg1 hcsg2 hE1' hE2' hg1c hg2c hcl1 hcl2 hR1 hR2 hLHC
        have HSZ := Lib.hid (Nat.le_trans HB.out.size hszw)
        clear hszw
        go_wp2_with fail
        refine HCL.mono ?_
        rintro e w2 ⟨r, rfl, hr, hb2⟩
        have HB3 := Lib.hid (HW.out.trans (hb2.mono HSZ.out))
        clear hb2 HCL
        cases r with
        | true =>
          have HE := Lib.hid (HTK.out (hr.1 rfl))
          clear hr
          go_wp2_with fail
          go_roundg (xs.length - (i + 1))
          case measure => omega
          case rel => exact ⟨i + 1, by simp, by omega, rfl, HE, HB3.out⟩
        | false =>
          have HE := Lib.hid (HNE.out (fun h => by have := hr.2 h; cases this))
          clear hr
          go_wp2_with fail
          go_ret
          exact ⟨false, rfl, ⟨(fun h => by cases h), fun h => absurd h HE.out⟩, HB3.out⟩
      · have hd : decide ((i : Int) < (xs.length : Int)) = false := decide_eq_false (by omega)
        have hd2 : decide (i < xs.length) = false := decide_eq_false hlt
        have HE := Lib.hid (show xs = ys by
          have := HT.out
          rwa [List.take_of_length_le (by omega), List.take_of_length_le (by rw [← HLL.out]; omega)] at this)
        clear hb
        go_wp2_with fail
        go_ret
        exact ⟨true, rfl, ⟨fun _ => HE.out, fun _ => rfl⟩, HB.out⟩
  · have h1 : ((xs.length : Int) == (ys.length : Int)) = false := by rw [beq_eq_false_iff_ne]; omega
    have h2 : ((xs.length : Int) != (ys.length : Int)) = true := by unfold bne; rw [h1]; rfl
    have h3 : (xs.length == ys.length) = false := by rw [beq_eq_false_iff_ne]; omega
    have HE := Lib.hid (show xs ≠ ys from fun e => hll (by rw [e]))
    clear HR1 HR2 HF HD1 HD2
    go_enter Tryz.func113, Tryz.ntmps113
    go_wp2_with fail
    go_ret
    exact ⟨false, rfl, ⟨(fun h => by cases h), fun h => absurd h HE.out⟩, Below.refl _ _⟩

end Go.Proofs.YtkfllppggjhhmaaGreatDoor
