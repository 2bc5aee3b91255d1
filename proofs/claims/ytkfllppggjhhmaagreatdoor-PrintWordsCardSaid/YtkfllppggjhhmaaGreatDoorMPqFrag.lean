/-
  print.isSame: rows of type api.Sel.
-/
import Derived.Test.YtkfllppggjhhmaaGreatDoorMPis0
namespace Go.Proofs.YtkfllppggjhhmaaGreatDoor
open Go.RowKit
set_option linter.unusedVariables false

set_option maxHeartbeats 3000000 in
set_option maxRecDepth 100000 in
theorem eqfSel_any {n1 n2 : Nat} {D1 D2 : Nat → Prop} {xs ys : List SelT} {v1 v2 : Value} (w : World) (h1 : RowD (SelE n1) 7 w D1 xs v1) (h2 : RowD (SelE n2) 7 w D2 ys v2) (hD1 : ∀ b, D1 b → b < w.heap.size) (hD2 : ∀ b, D2 b → b < w.heap.size)
    (hF : ∀ x ∈ xs, ∀ y ∈ ys, ∀ cs ds W, Below w.heap.size w W → (SelE n1) W D1 x cs → (SelE n2) W D2 y ds → Calls Tryz.prog 118 #[.agg cs.toArray, .agg ds.toArray] W (EqAns (x = y) W)) :
    Calls Tryz.prog 117 #[v1, v2, .func (.func 118) #[] #[]] w (EqAns (xs = ys) w) := by
  obtain ⟨a1, cap1, rfl, hx1, hcap1, hrow1⟩ := h1
  obtain ⟨a2, cap2, rfl, hx2, hcap2, hrow2⟩ := h2
  have HR1 := Lib.hid hrow1
  have HR2 := Lib.hid hrow2
  have HF := Lib.hid hF
  have HD1 := Lib.hid hD1
  have HD2 := Lib.hid hD2
  clear hrow1 hrow2 hF hD1 hD2
  by_cases hll : xs.length = ys.length
  · have HLL := Lib.hid hll
    rw [← hll] at hx2 hcap2 HR2 ⊢
    clear hll
    go_enter Tryz.func117, Tryz.ntmps117
    go_wp2_with fail
    go_loopg [7, 8, 9, 17] xs.length (fun j _ _ _ v17 wr => ∃ i : Nat, v17 = .int .i64 (i : Int) ∧ i ≤ xs.length ∧ j = xs.length - i ∧ Hid (xs.take i = ys.take i) ∧ Below w.heap.size w wr)
    case atStart => exact ⟨0, rfl, Nat.zero_le _, rfl, Lib.hid rfl, Below.refl _ _⟩
    case round =>
      obtain ⟨i, rfl, hi, hj, HT, hb⟩ := hrel
      have HB := Lib.hid hb
      have hw : IntKind.i64.wrap ((i : Int) + 1) = (i : Int) + 1 := IntWalk.i64_in _ (by omega)
      by_cases hlt : i < xs.length
      · have hd : decide ((i : Int) < (xs.length : Int)) = true := decide_eq_true (by omega)
        have hd2 : decide (i < xs.length) = true := decide_eq_true hlt
        have hlty : i < ys.length := by rw [← HLL.out]; exact hlt
        obtain ⟨g1, off1, rfl, hDg1, hel1⟩ := HR1.out (by omega)
        obtain ⟨g2, off2, rfl, hDg2, hel2⟩ := HR2.out (by omega)
        have hxi : xs[i]? = some xs[i] := List.getElem?_eq_getElem hlt
        have hyi : ys[i]? = some ys[i] := List.getElem?_eq_getElem hlty
        have hmx := List.getElem_mem hlt
        have hmy := List.getElem_mem hlty
        obtain ⟨cs, hcl1, hcsg1, hE1⟩ := hel1 i _ hxi
        obtain ⟨ds, hcl2, hcsg2, hE2⟩ := hel2 i _ hyi
        have HTK := Lib.hid (show xs[i] = ys[i] → xs.take (i + 1) = ys.take (i + 1) from fun h => by rw [List.take_add_one, List.take_add_one, HT.out, hxi, hyi, h])
        have HNE := Lib.hid (show xs[i] ≠ ys[i] → xs ≠ ys from fun h e => h (by
          have h3 : xs[i]? = ys[i]? := by rw [e]
          rw [hxi, hyi] at h3
          exact Option.some.inj h3))
        have hLHC := HF.out _ hmx _ hmy
        generalize xs[i] = x at *
        generalize ys[i] = y at *
        clear hxi hyi hmx hmy hlty
        obtain ⟨n1', hn1⟩ : ∃ n', n1 = n' + 1 := by
          cases n1 with
          | zero => exact hE1.elim
          | succ n' => exact ⟨n', rfl⟩
        rw [hn1] at hE1
        obtain ⟨hz1, va, vd, vs, rfl, ha1, hd1, hs1⟩ := hE1
        obtain ⟨aa1, ca1, rfl⟩ := ha1.shape
        obtain ⟨ad1, cd1, rfl⟩ := hd1.shape
        obtain ⟨as1, cs1, rfl⟩ := hs1.shape
        obtain ⟨n2', hn2⟩ : ∃ n', n2 = n' + 1 := by
          cases n2 with
          | zero => exact hE2.elim
          | succ n' => exact ⟨n', rfl⟩
        rw [hn2] at hE2
        obtain ⟨hz2, va, vd, vs, rfl, ha2, hd2, hs2⟩ := hE2
        obtain ⟨aa2, ca2, rfl⟩ := ha2.shape
        obtain ⟨ad2, cd2, rfl⟩ := hd2.shape
        obtain ⟨as2, cs2, rfl⟩ := hs2.shape
        have hgl1 : g1 < wr.heap.size := Nat.lt_of_lt_of_le (HD1.out g1 hDg1) hb.size
        have hgl2 : g2 < wr.heap.size := Nat.lt_of_lt_of_le (HD2.out g2 hDg2) hb.size
        have hg1c : ∀ o, wr.cell? ⟨g1, o, none⟩ = w.cell? ⟨g1, o, none⟩ := fun o => World.cell?_of_block (a := ⟨g1, o, none⟩) (hb.block g1 (HD1.out g1 hDg1))
        have hg2c : ∀ o, wr.cell? ⟨g2, o, none⟩ = w.cell? ⟨g2, o, none⟩ := fun o => World.cell?_of_block (a := ⟨g2, o, none⟩) (hb.block g2 (HD2.out g2 hDg2))
        have k0 : wr.cell? ⟨g1, off1 + i * 7, none⟩ = some (.int .i64 x.k) := (hg1c _).trans (hcsg1 0 _ rfl)
        have k1 : wr.cell? ⟨g1, off1 + i * 7 + 1, none⟩ = some (.string ⟨x.al.toArray⟩) := (hg1c _).trans (hcsg1 1 _ rfl)
        have k2 : wr.cell? ⟨g1, off1 + i * 7 + 2, none⟩ = some (.string ⟨x.nm.toArray⟩) := (hg1c _).trans (hcsg1 2 _ rfl)
        have k3 : wr.cell? ⟨g1, off1 + i * 7 + 3, none⟩ = some (.string ⟨x.on_.toArray⟩) := (hg1c _).trans (hcsg1 3 _ rfl)
        have k4 : wr.cell? ⟨g1, off1 + i * 7 + 4, none⟩ = some (.slice aa1 x.args.length ca1) := (hg1c _).trans (hcsg1 4 _ rfl)
        have k5 : wr.cell? ⟨g1, off1 + i * 7 + 5, none⟩ = some (.slice ad1 x.dirs.length cd1) := (hg1c _).trans (hcsg1 5 _ rfl)
        have k6 : wr.cell? ⟨g1, off1 + i * 7 + 6, none⟩ = some (.slice as1 x.sels.length cs1) := (hg1c _).trans (hcsg1 6 _ rfl)
        have j0 : wr.cell? ⟨g2, off2 + i * 7, none⟩ = some (.int .i64 y.k) := (hg2c _).trans (hcsg2 0 _ rfl)
        have j1 : wr.cell? ⟨g2, off2 + i * 7 + 1, none⟩ = some (.string ⟨y.al.toArray⟩) := (hg2c _).trans (hcsg2 1 _ rfl)
        have j2 : wr.cell? ⟨g2, off2 + i * 7 + 2, none⟩ = some (.string ⟨y.nm.toArray⟩) := (hg2c _).trans (hcsg2 2 _ rfl)
        have j3 : wr.cell? ⟨g2, off2 + i * 7 + 3, none⟩ = some (.string ⟨y.on_.toArray⟩) := (hg2c _).trans (hcsg2 3 _ rfl)
        have j4 : wr.cell? ⟨g2, off2 + i * 7 + 4, none⟩ = some (.slice aa2 y.args.length ca2) := (hg2c _).trans (hcsg2 4 _ rfl)
        have j5 : wr.cell? ⟨g2, off2 + i * 7 + 5, none⟩ = some (.slice ad2 y.dirs.length cd2) := (hg2c _).trans (hcsg2 5 _ rfl)
        have j6 : wr.cell? ⟨g2, off2 + i * 7 + 6, none⟩ = some (.slice as2 y.sels.length cs2) := (hg2c _).trans (hcsg2 6 _ rfl)
        have hicp1 : i < cap1 := by omega
        have hicp2 : i < cap2 := by omega
        have HW := Lib.hid ((hb.alloc hb.size (.cells #[.int .i64 x.k, .string ⟨x.al.toArray⟩, .string ⟨x.nm.toArray⟩, .string ⟨x.on_.toArray⟩, .slice aa1 x.args.length ca1, .slice ad1 x.dirs.length cd1, .slice as1 x.sels.length cs1] 49)).alloc (by have := hb.size; simp; omega) (.cells #[.int .i64 y.k, .string ⟨y.al.toArray⟩, .string ⟨y.nm.toArray⟩, .string ⟨y.on_.toArray⟩, .slice aa2 y.args.length ca2, .slice ad2 y.dirs.length cd2, .slice as2 y.sels.length cs2] 49))
        have hE1' : (SelE n1) ((wr.alloc (.cells #[.int .i64 x.k, .string ⟨x.al.toArray⟩, .string ⟨x.nm.toArray⟩, .string ⟨x.on_.toArray⟩, .slice aa1 x.args.length ca1, .slice ad1 x.dirs.length cd1, .slice as1 x.sels.length cs1] 49)).alloc (.cells #[.int .i64 y.k, .string ⟨y.al.toArray⟩, .string ⟨y.nm.toArray⟩, .string ⟨y.on_.toArray⟩, .slice aa2 y.args.length ca2, .slice ad2 y.dirs.length cd2, .slice as2 y.sels.length cs2] 49)) D1 x [.int .i64 x.k, .string ⟨x.al.toArray⟩, .string ⟨x.nm.toArray⟩, .string ⟨x.on_.toArray⟩, .slice aa1 x.args.length ca1, .slice ad1 x.dirs.length cd1, .slice as1 x.sels.length cs1] := (selOk n1).step (fun _ h => h) (fun b o hb' => World.cell?_of_block (a := ⟨b, o, none⟩) (HW.out.block b (HD1.out b hb'))) (by rw [hn1]; exact ⟨hz1, _, _, _, rfl, ha1, hd1, hs1⟩)
        have hE2' : (SelE n2) ((wr.alloc (.cells #[.int .i64 x.k, .string ⟨x.al.toArray⟩, .string ⟨x.nm.toArray⟩, .string ⟨x.on_.toArray⟩, .slice aa1 x.args.length ca1, .slice ad1 x.dirs.length cd1, .slice as1 x.sels.length cs1] 49)).alloc (.cells #[.int .i64 y.k, .string ⟨y.al.toArray⟩, .string ⟨y.nm.toArray⟩, .string ⟨y.on_.toArray⟩, .slice aa2 y.args.length ca2, .slice ad2 y.dirs.length cd2, .slice as2 y.sels.length cs2] 49)) D2 y [.int .i64 y.k, .string ⟨y.al.toArray⟩, .string ⟨y.nm.toArray⟩, .string ⟨y.on_.toArray⟩, .slice aa2 y.args.length ca2, .slice ad2 y.dirs.length cd2, .slice as2 y.sels.length cs2] := (selOk n2).step (fun _ h => h) (fun b o hb' => World.cell?_of_block (a := ⟨b, o, none⟩) (HW.out.block b (HD2.out b hb'))) (by rw [hn2]; exact ⟨hz2, _, _, _, rfl, ha2, hd2, hs2⟩)
        have HCL : Calls Tryz.prog 118 #[.agg #[.int .i64 x.k, .string ⟨x.al.toArray⟩, .string ⟨x.nm.toArray⟩, .string ⟨x.on_.toArray⟩, .slice aa1 x.args.length ca1, .slice ad1 x.dirs.length cd1, .slice as1 x.sels.length cs1], .agg #[.int .i64 y.k, .string ⟨y.al.toArray⟩, .string ⟨y.nm.toArray⟩, .string ⟨y.on_.toArray⟩, .slice aa2 y.args.length ca2, .slice ad2 y.dirs.length cd2, .slice as2 y.sels.length cs2]] ((wr.alloc (.cells #[.int .i64 x.k, .string ⟨x.al.toArray⟩, .string ⟨x.nm.toArray⟩, .string ⟨x.on_.toArray⟩, .slice aa1 x.args.length ca1, .slice ad1 x.dirs.length cd1, .slice as1 x.sels.length cs1] 49)).alloc (.cells #[.int .i64 y.k, .string ⟨y.al.toArray⟩, .string ⟨y.nm.toArray⟩, .string ⟨y.on_.toArray⟩, .slice aa2 y.args.length ca2, .slice ad2 y.dirs.length cd2, .slice as2 y.sels.length cs2] 49)) _ := hLHC [.int .i64 x.k, .string ⟨x.al.toArray⟩, .string ⟨x.nm.toArray⟩, .string ⟨x.on_.toArray⟩, .slice aa1 x.args.length ca1, .slice ad1 x.dirs.length cd1, .slice as1 x.sels.length cs1] [.int .i64 y.k, .string ⟨y.al.toArray⟩, .string ⟨y.nm.toArray⟩, .string ⟨y.on_.toArray⟩, .slice aa2 y.args.length ca2, .slice ad2 y.dirs.length cd2, .slice as2 y.sels.length cs2] _ HW.out hE1' hE2'
        have hszw : wr.heap.size ≤ ((wr.alloc (.cells #[.int .i64 x.k, .string ⟨x.al.toArray⟩, .string ⟨x.nm.toArray⟩, .string ⟨x.on_.toArray⟩, .slice aa1 x.args.length ca1, .slice ad1 x.dirs.length cd1, .slice as1 x.sels.length cs1] 49)).alloc (.cells #[.int .i64 y.k, .string ⟨y.al.toArray⟩, .string ⟨y.nm.toArray⟩, .string ⟨y.on_.toArray⟩, .slice aa2 y.args.length ca2, .slice ad2 y.dirs.length cd2, .slice as2 y.sels.length cs2] 49)).heap.size := by simp; omega
        clear hb hel1 hel2 hcsg1 hcsg2 hE1' hE2' hg1c hg2c hcl1 hcl2 ha1 hd1 hs1 ha2 hd2 hs2 hLHC
        have HSZ := Lib.hid (Nat.le_trans HB.out.size hszw)
        clear hszw
        go_wp2_with fail
        refine HCL.mono ?_
        rintro e w2 ⟨r, rfl, hr, hb2⟩
        have HB3 := Lib.hid (HW.out.trans (hb2.mono HSZ.out))
        clear hb2 HCL
        cases r with
        | true =>
          have HE := Lib.hid (HTK.out (hr.1 rfl))
          clear hr
          go_wp2_with fail
          go_roundg (xs.length - (i + 1))
          case measure => omega
          case rel => exact ⟨i + 1, by simp, by omega, rfl, HE, HB3.out⟩
        | false =>
          have HE := Lib.hid (HNE.out (fun h => by have := hr.2 h; cases this))
          clear hr
          go_wp2_with fail
          go_ret
          exact ⟨false, rfl, ⟨(fun h => by cases h), fun h => absurd h HE.out⟩, HB3.out⟩
      · have hd : decide ((i : Int) < (xs.length : Int)) = false := decide_eq_false (by omega)
        have hd2 : decide (i < xs.length) = false := decide_eq_false hlt
        have HE := Lib.hid (show xs = ys by
          have := HT.out
          rwa [List.take_of_length_le (by omega), List.take_of_length_le (by rw [← HLL.out]; omega)] at this)
        clear hb
        go_wp2_with fail
        go_ret
        exact ⟨true, rfl, ⟨fun _ => HE.out, fun _ => rfl⟩, HB.out⟩
  · have h1 : ((xs.length : Int) == (ys.length : Int)) = false := by rw [beq_eq_false_iff_ne]; omega
    have h2 : ((xs.length : Int) != (ys.length : Int)) = true := by unfold bne; rw [h1]; rfl
    have h3 : (xs.length == ys.length) = false := by rw [beq_eq_false_iff_ne]; omega
    have HE := Lib.hid (show xs ≠ ys from fun e => hll (by rw [e]))
    clear HR1 HR2 HF HD1 HD2
    go_enter Tryz.func117, Tryz.ntmps117
    go_wp2_with fail
    go_ret
    exact ⟨false, rfl, ⟨(fun h => by cases h), fun h => absurd h HE.out⟩, Below.refl _ _⟩

end Go.Proofs.YtkfllppggjhhmaaGreatDoor
/-
  print.isSame: rows of type api.Op.
-/
namespace Go.Proofs.YtkfllppggjhhmaaGreatDoor
open Go.RowKit
set_option linter.unusedVariables false

set_option maxHeartbeats 3000000 in
set_option maxRecDepth 100000 in
theorem eqfOp_any {D1 D2 : Nat → Prop} {xs ys : List OpT} {v1 v2 : Value} (w : World) (h1 : RowD OpE 5 w D1 xs v1) (h2 : RowD OpE 5 w D2 ys v2) (hD1 : ∀ b, D1 b → b < w.heap.size) (hD2 : ∀ b, D2 b → b < w.heap.size)
    (hF : ∀ x ∈ xs, ∀ y ∈ ys, ∀ cs ds W, Below w.heap.size w W → OpE W D1 x cs → OpE W D2 y ds → Calls Tryz.prog 74 #[.agg cs.toArray, .agg ds.toArray] W (EqAns (x = y) W)) :
    Calls Tryz.prog 73 #[v1, v2, .func (.func 74) #[] #[]] w (EqAns (xs = ys) w) := by
  obtain ⟨a1, cap1, rfl, hx1, hcap1, hrow1⟩ := h1
  obtain ⟨a2, cap2, rfl, hx2, hcap2, hrow2⟩ := h2
  have HR1 := Lib.hid hrow1
  have HR2 := Lib.hid hrow2
  have HF := Lib.hid hF
  have HD1 := Lib.hid hD1
  have HD2 := Lib.hid hD2
  clear hrow1 hrow2 hF hD1 hD2
  by_cases hll : xs.length = ys.length
  · have HLL := Lib.hid hll
    rw [← hll] at hx2 hcap2 HR2 ⊢
    clear hll
    go_enter Tryz.func73, Tryz.ntmps73
    go_wp2_with fail
    go_loopg [7, 8, 9, 17] xs.length (fun j _ _ _ v17 wr => ∃ i : Nat, v17 = .int .i64 (i : Int) ∧ i ≤ xs.length ∧ j = xs.length - i ∧ Hid (xs.take i = ys.take i) ∧ Below w.heap.size w wr)
    case atStart => exact ⟨0, rfl, Nat.zero_le _, rfl, Lib.hid rfl, Below.refl _ _⟩
    case round =>
      obtain ⟨i, rfl, hi, hj, HT, hb⟩ := hrel
      have HB := Lib.hid hb
      have hw : IntKind.i64.wrap ((i : Int) + 1) = (i : Int) + 1 := IntWalk.i64_in _ (by omega)
      by_cases hlt : i < xs.length
      · have hd : decide ((i : Int) < (xs.length : Int)) = true := decide_eq_true (by omega)
        have hd2 : decide (i < xs.length) = true := decide_eq_true hlt
        have hlty : i < ys.length := by rw [← HLL.out]; exact hlt
        obtain ⟨g1, off1, rfl, hDg1, hel1⟩ := HR1.out (by omega)
        obtain ⟨g2, off2, rfl, hDg2, hel2⟩ := HR2.out (by omega)
        have hxi : xs[i]? = some xs[i] := List.getElem?_eq_getElem hlt
        have hyi : ys[i]? = some ys[i] := List.getElem?_eq_getElem hlty
        have hmx := List.getElem_mem hlt
        have hmy := List.getElem_mem hlty
        obtain ⟨cs, hcl1, hcsg1, hE1⟩ := hel1 i _ hxi
        obtain ⟨ds, hcl2, hcsg2, hE2⟩ := hel2 i _ hyi
        have HTK := Lib.hid (show xs[i] = ys[i] → xs.take (i + 1) = ys.take (i + 1) from fun h => by rw [List.take_add_one, List.take_add_one, HT.out, hxi, hyi, h])
        have HNE := Lib.hid (show xs[i] ≠ ys[i] → xs ≠ ys from fun h e => h (by
          have h3 : xs[i]? = ys[i]? := by rw [e]
          rw [hxi, hyi] at h3
          exact Option.some.inj h3))
        have hLHC := HF.out _ hmx _ hmy
        generalize xs[i] = x at *
        generalize ys[i] = y at *
        clear hxi hyi hmx hmy hlty
        obtain ⟨hz1, vv, vd, vs, rfl, ha1, hd1, hs1⟩ := hE1
        obtain ⟨aa1, ca1, rfl⟩ := ha1.shape
        obtain ⟨ad1, cd1, rfl⟩ := hd1.shape
        obtain ⟨as1, cs1, rfl⟩ := hs1.shape
        obtain ⟨hz2, vv, vd, vs, rfl, ha2, hd2, hs2⟩ := hE2
        obtain ⟨aa2, ca2, rfl⟩ := ha2.shape
        obtain ⟨ad2, cd2, rfl⟩ := hd2.shape
        obtain ⟨as2, cs2, rfl⟩ := hs2.shape
        have hgl1 : g1 < wr.heap.size := Nat.lt_of_lt_of_le (HD1.out g1 hDg1) hb.size
        have hgl2 : g2 < wr.heap.size := Nat.lt_of_lt_of_le (HD2.out g2 hDg2) hb.size
        have hg1c : ∀ o, wr.cell? ⟨g1, o, none⟩ = w.cell? ⟨g1, o, none⟩ := fun o => World.cell?_of_block (a := ⟨g1, o, none⟩) (hb.block g1 (HD1.out g1 hDg1))
        have hg2c : ∀ o, wr.cell? ⟨g2, o, none⟩ = w.cell? ⟨g2, o, none⟩ := fun o => World.cell?_of_block (a := ⟨g2, o, none⟩) (hb.block g2 (HD2.out g2 hDg2))
        have k0 : wr.cell? ⟨g1, off1 + i * 5, none⟩ = some (.bool x.mut_) := (hg1c _).trans (hcsg1 0 _ rfl)
        have k1 : wr.cell? ⟨g1, off1 + i * 5 + 1, none⟩ = some (.string ⟨x.nm.toArray⟩) := (hg1c _).trans (hcsg1 1 _ rfl)
        have k2 : wr.cell? ⟨g1, off1 + i * 5 + 2, none⟩ = some (.slice aa1 x.vars.length ca1) := (hg1c _).trans (hcsg1 2 _ rfl)
        have k3 : wr.cell? ⟨g1, off1 + i * 5 + 3, none⟩ = some (.slice ad1 x.dirs.length cd1) := (hg1c _).trans (hcsg1 3 _ rfl)
        have k4 : wr.cell? ⟨g1, off1 + i * 5 + 4, none⟩ = some (.slice as1 x.sels.length cs1) := (hg1c _).trans (hcsg1 4 _ rfl)
        have j0 : wr.cell? ⟨g2, off2 + i * 5, none⟩ = some (.bool y.mut_) := (hg2c _).trans (hcsg2 0 _ rfl)
        have j1 : wr.cell? ⟨g2, off2 + i * 5 + 1, none⟩ = some (.string ⟨y.nm.toArray⟩) := (hg2c _).trans (hcsg2 1 _ rfl)
        have j2 : wr.cell? ⟨g2, off2 + i * 5 + 2, none⟩ = some (.slice aa2 y.vars.length ca2) := (hg2c _).trans (hcsg2 2 _ rfl)
        have j3 : wr.cell? ⟨g2, off2 + i * 5 + 3, none⟩ = some (.slice ad2 y.dirs.length cd2) := (hg2c _).trans (hcsg2 3 _ rfl)
        have j4 : wr.cell? ⟨g2, off2 + i * 5 + 4, none⟩ = some (.slice as2 y.sels.length cs2) := (hg2c _).trans (hcsg2 4 _ rfl)
        have hicp1 : i < cap1 := by omega
        have hicp2 : i < cap2 := by omega
        have HW := Lib.hid ((hb.alloc hb.size (.cells #[.bool x.mut_, .string ⟨x.nm.toArray⟩, .slice aa1 x.vars.length ca1, .slice ad1 x.dirs.length cd1, .slice as1 x.sels.length cs1] 45)).alloc (by have := hb.size; simp; omega) (.cells #[.bool y.mut_, .string ⟨y.nm.toArray⟩, .slice aa2 y.vars.length ca2, .slice ad2 y.dirs.length cd2, .slice as2 y.sels.length cs2] 45))
        have hE1' : OpE ((wr.alloc (.cells #[.bool x.mut_, .string ⟨x.nm.toArray⟩, .slice aa1 x.vars.length ca1, .slice ad1 x.dirs.length cd1, .slice as1 x.sels.length cs1] 45)).alloc (.cells #[.bool y.mut_, .string ⟨y.nm.toArray⟩, .slice aa2 y.vars.length ca2, .slice ad2 y.dirs.length cd2, .slice as2 y.sels.length cs2] 45)) D1 x [.bool x.mut_, .string ⟨x.nm.toArray⟩, .slice aa1 x.vars.length ca1, .slice ad1 x.dirs.length cd1, .slice as1 x.sels.length cs1] := (opOk).step (fun _ h => h) (fun b o hb' => World.cell?_of_block (a := ⟨b, o, none⟩) (HW.out.block b (HD1.out b hb'))) ⟨hz1, _, _, _, rfl, ha1, hd1, hs1⟩
        have hE2' : OpE ((wr.alloc (.cells #[.bool x.mut_, .string ⟨x.nm.toArray⟩, .slice aa1 x.vars.length ca1, .slice ad1 x.dirs.length cd1, .slice as1 x.sels.length cs1] 45)).alloc (.cells #[.bool y.mut_, .string ⟨y.nm.toArray⟩, .slice aa2 y.vars.length ca2, .slice ad2 y.dirs.length cd2, .slice as2 y.sels.length cs2] 45)) D2 y [.bool y.mut_, .string ⟨y.nm.toArray⟩, .slice aa2 y.vars.length ca2, .slice ad2 y.dirs.length cd2, .slice as2 y.sels.length cs2] := (opOk).step (fun _ h => h) (fun b o hb' => World.cell?_of_block (a := ⟨b, o, none⟩) (HW.out.block b (HD2.out b hb'))) ⟨hz2, _, _, _, rfl, ha2, hd2, hs2⟩
        have HCL : Calls Tryz.prog 74 #[.agg #[.bool x.mut_, .string ⟨x.nm.toArray⟩, .slice aa1 x.vars.length ca1, .slice ad1 x.dirs.length cd1, .slice as1 x.sels.length cs1], .agg #[.bool y.mut_, .string ⟨y.nm.toArray⟩, .slice aa2 y.vars.length ca2, .slice ad2 y.dirs.length cd2, .slice as2 y.sels.length cs2]] ((wr.alloc (.cells #[.bool x.mut_, .string ⟨x.nm.toArray⟩, .slice aa1 x.vars.length ca1, .slice ad1 x.dirs.length cd1, .slice as1 x.sels.length cs1] 45)).alloc (.cells #[.bool y.mut_, .string ⟨y.nm.toArray⟩, .slice aa2 y.vars.length ca2, .slice ad2 y.dirs.length cd2, .slice as2 y.sels.length cs2] 45)) _ := hLHC [.bool x.mut_, .string ⟨x.nm.toArray⟩, .slice aa1 x.vars.length ca1, .slice ad1 x.dirs.length cd1, .slice as1 x.sels.length cs1] [.bool y.mut_, .string ⟨y.nm.toArray⟩, .slice aa2 y.vars.length ca2, .slice ad2 y.dirs.length cd2, .slice as2 y.sels.length cs2] _ HW.out hE1' hE2'
        have hszw : wr.heap.size ≤ ((wr.alloc (.cells #[.bool x.mut_, .string ⟨x.nm.toArray⟩, .slice aa1 x.vars.length ca1, .slice ad1 x.dirs.length cd1, .slice as1 x.sels.length cs1] 45)).alloc (.cells #[.bool y.mut_, .string ⟨y.nm.toArray⟩, .slice aa2 y.vars.length ca2, .slice ad2 y.dirs.length cd2, .slice as2 y.sels.length cs2] 45)).heap.size := by simp; omega
        clear hb hel1 hel2 hcsg1 hcsg2 hE1' hE2' hg1c hg2c hcl1 hcl2 ha1 hd1 hs1 ha2 hd2 hs2 hLHC
        have HSZ := Lib.hid (Nat.le_trans HB.out.size hszw)
        clear hszw
        go_wp2_with fail
        refine HCL.mono ?_
        rintro e w2 ⟨r, rfl, hr, hb2⟩
        have HB3 := Lib.hid (HW.out.trans (hb2.mono HSZ.out))
        clear hb2 HCL
        cases r with
        | true =>
          have HE := Lib.hid (HTK.out (hr.1 rfl))
          clear hr
          go_wp2_with fail
          go_roundg (xs.length - (i + 1))
          case measure => omega
          case rel => exact ⟨i + 1, by simp, by omega, rfl, HE, HB3.out⟩
        | false =>
          have HE := Lib.hid (HNE.out (fun h => by have := hr.2 h; cases this))
          clear hr
          go_wp2_with fail
          go_ret
          exact ⟨false, rfl, ⟨(fun h => by cases h), fun h => absurd h HE.out⟩, HB3.out⟩
      · have hd : decide ((i : Int) < (xs.length : Int)) = false := decide_eq_false (by omega)
        have hd2 : decide (i < xs.length) = false := decide_eq_false hlt
        have HE := Lib.hid (show xs = ys by
          have := HT.out
          rwa [List.take_of_length_le (by omega), List.take_of_length_le (by rw [← HLL.out]; omega)] at this)
        clear hb
        go_wp2_with fail
        go_ret
        exact ⟨true, rfl, ⟨fun _ => HE.out, fun _ => rfl⟩, HB.out⟩
  · have h1 : ((xs.length : Int) == (ys.length : Int)) = false := by rw [beq_eq_false_iff_ne]; omega
    have h2 : ((xs.length : Int) != (ys.length : Int)) = true := by unfold bne; rw [h1]; rfl
    have h3 : (xs.length == ys.length) = false := by rw [beq_eq_false_iff_ne]; omega
    have HE := Lib.hid (show xs ≠ ys from fun e => hll (by rw [e]))
    clear HR1 HR2 HF HD1 HD2
    go_enter Tryz.func73, Tryz.ntmps73
    go_wp2_with fail
    go_ret
    exact ⟨false, rfl, ⟨(fun h => by cases h), fun h => absurd h HE.out⟩, Below.refl _ _⟩

end Go.Proofs.YtkfllppggjhhmaaGreatDoor
/-
  print.isSame: rows of type api.Frag.
-/
namespace Go.Proofs.YtkfllppggjhhmaaGreatDoor
open Go.RowKit
set_option linter.unusedVariables false

set_option maxHeartbeats 3000000 in
set_option maxRecDepth 100000 in
theorem eqfFrag_any {D1 D2 : Nat → Prop} {xs ys : List FragT} {v1 v2 : Value} (w : World) (h1 : RowD FragE 4 w D1 xs v1) (h2 : RowD FragE 4 w D2 ys v2) (hD1 : ∀ b, D1 b → b < w.heap.size) (hD2 : ∀ b, D2 b → b < w.heap.size)
    (hF : ∀ x ∈ xs, ∀ y ∈ ys, ∀ cs ds W, Below w.heap.size w W → FragE W D1 x cs → FragE W D2 y ds → Calls Tryz.prog 76 #[.agg cs.toArray, .agg ds.toArray] W (EqAns (x = y) W)) :
    Calls Tryz.prog 75 #[v1, v2, .func (.func 76) #[] #[]] w (EqAns (xs = ys) w) := by
  obtain ⟨a1, cap1, rfl, hx1, hcap1, hrow1⟩ := h1
  obtain ⟨a2, cap2, rfl, hx2, hcap2, hrow2⟩ := h2
  have HR1 := Lib.hid hrow1
  have HR2 := Lib.hid hrow2
  have HF := Lib.hid hF
  have HD1 := Lib.hid hD1
  have HD2 := Lib.hid hD2
  clear hrow1 hrow2 hF hD1 hD2
  by_cases hll : xs.length = ys.length
  · have HLL := Lib.hid hll
    rw [← hll] at hx2 hcap2 HR2 ⊢
    clear hll
    go_enter Tryz.func75, Tryz.ntmps75
    go_wp2_with fail
    go_loopg [7, 8, 9, 17] xs.length (fun j _ _ _ v17 wr => ∃ i : Nat, v17 = .int .i64 (i : Int) ∧ i ≤ xs.length ∧ j = xs.length - i ∧ Hid (xs.take i = ys.take i) ∧ Below w.heap.size w wr)
    case atStart => exact ⟨0, rfl, Nat.zero_le _, rfl, Lib.hid rfl, Below.refl _ _⟩
    case round =>
      obtain ⟨i, rfl, hi, hj, HT, hb⟩ := hrel
      have HB := Lib.hid hb
      have hw : IntKind.i64.wrap ((i : Int) + 1) = (i : Int) + 1 := IntWalk.i64_in _ (by omega)
      by_cases hlt : i < xs.length
      · have hd : decide ((i : Int) < (xs.length : Int)) = true := decide_eq_true (by omega)
        have hd2 : decide (i < xs.length) = true := decide_eq_true hlt
        have hlty : i < ys.length := by rw [← HLL.out]; exact hlt
        obtain ⟨g1, off1, rfl, hDg1, hel1⟩ := HR1.out (by omega)
        obtain ⟨g2, off2, rfl, hDg2, hel2⟩ := HR2.out (by omega)
        have hxi : xs[i]? = some xs[i] := List.getElem?_eq_getElem hlt
        have hyi : ys[i]? = some ys[i] := List.getElem?_eq_getElem hlty
        have hmx := List.getElem_mem hlt
        have hmy := List.getElem_mem hlty
        obtain ⟨cs, hcl1, hcsg1, hE1⟩ := hel1 i _ hxi
        obtain ⟨ds, hcl2, hcsg2, hE2⟩ := hel2 i _ hyi
        have HTK := Lib.hid (show xs[i] = ys[i] → xs.take (i + 1) = ys.take (i + 1) from fun h => by rw [List.take_add_one, List.take_add_one, HT.out, hxi, hyi, h])
        have HNE := Lib.hid (show xs[i] ≠ ys[i] → xs ≠ ys from fun h e => h (by
          have h3 : xs[i]? = ys[i]? := by rw [e]
          rw [hxi, hyi] at h3
          exact Option.some.inj h3))
        have hLHC := HF.out _ hmx _ hmy
        generalize xs[i] = x at *
        generalize ys[i] = y at *
        clear hxi hyi hmx hmy hlty
        obtain ⟨hz1, vd, vs, rfl, hd1, hs1⟩ := hE1
        obtain ⟨ad1, cd1, rfl⟩ := hd1.shape
        obtain ⟨as1, cs1, rfl⟩ := hs1.shape
        obtain ⟨hz2, vd, vs, rfl, hd2, hs2⟩ := hE2
        obtain ⟨ad2, cd2, rfl⟩ := hd2.shape
        obtain ⟨as2, cs2, rfl⟩ := hs2.shape
        have hgl1 : g1 < wr.heap.size := Nat.lt_of_lt_of_le (HD1.out g1 hDg1) hb.size
        have hgl2 : g2 < wr.heap.size := Nat.lt_of_lt_of_le (HD2.out g2 hDg2) hb.size
        have hg1c : ∀ o, wr.cell? ⟨g1, o, none⟩ = w.cell? ⟨g1, o, none⟩ := fun o => World.cell?_of_block (a := ⟨g1, o, none⟩) (hb.block g1 (HD1.out g1 hDg1))
        have hg2c : ∀ o, wr.cell? ⟨g2, o, none⟩ = w.cell? ⟨g2, o, none⟩ := fun o => World.cell?_of_block (a := ⟨g2, o, none⟩) (hb.block g2 (HD2.out g2 hDg2))
        have k0 : wr.cell? ⟨g1, off1 + i * 4, none⟩ = some (.string ⟨x.nm.toArray⟩) := (hg1c _).trans (hcsg1 0 _ rfl)
        have k1 : wr.cell? ⟨g1, off1 + i * 4 + 1, none⟩ = some (.string ⟨x.on_.toArray⟩) := (hg1c _).trans (hcsg1 1 _ rfl)
        have k2 : wr.cell? ⟨g1, off1 + i * 4 + 2, none⟩ = some (.slice ad1 x.dirs.length cd1) := (hg1c _).trans (hcsg1 2 _ rfl)
        have k3 : wr.cell? ⟨g1, off1 + i * 4 + 3, none⟩ = some (.slice as1 x.sels.length cs1) := (hg1c _).trans (hcsg1 3 _ rfl)
        have j0 : wr.cell? ⟨g2, off2 + i * 4, none⟩ = some (.string ⟨y.nm.toArray⟩) := (hg2c _).trans (hcsg2 0 _ rfl)
        have j1 : wr.cell? ⟨g2, off2 + i * 4 + 1, none⟩ = some (.string ⟨y.on_.toArray⟩) := (hg2c _).trans (hcsg2 1 _ rfl)
        have j2 : wr.cell? ⟨g2, off2 + i * 4 + 2, none⟩ = some (.slice ad2 y.dirs.length cd2) := (hg2c _).trans (hcsg2 2 _ rfl)
        have j3 : wr.cell? ⟨g2, off2 + i * 4 + 3, none⟩ = some (.slice as2 y.sels.length cs2) := (hg2c _).trans (hcsg2 3 _ rfl)
        have hicp1 : i < cap1 := by omega
        have hicp2 : i < cap2 := by omega
        have HW := Lib.hid ((hb.alloc hb.size (.cells #[.string ⟨x.nm.toArray⟩, .string ⟨x.on_.toArray⟩, .slice ad1 x.dirs.length cd1, .slice as1 x.sels.length cs1] 61)).alloc (by have := hb.size; simp; omega) (.cells #[.string ⟨y.nm.toArray⟩, .string ⟨y.on_.toArray⟩, .slice ad2 y.dirs.length cd2, .slice as2 y.sels.length cs2] 61))
        have hE1' : FragE ((wr.alloc (.cells #[.string ⟨x.nm.toArray⟩, .string ⟨x.on_.toArray⟩, .slice ad1 x.dirs.length cd1, .slice as1 x.sels.length cs1] 61)).alloc (.cells #[.string ⟨y.nm.toArray⟩, .string ⟨y.on_.toArray⟩, .slice ad2 y.dirs.length cd2, .slice as2 y.sels.length cs2] 61)) D1 x [.string ⟨x.nm.toArray⟩, .string ⟨x.on_.toArray⟩, .slice ad1 x.dirs.length cd1, .slice as1 x.sels.length cs1] := (fragOk).step (fun _ h => h) (fun b o hb' => World.cell?_of_block (a := ⟨b, o, none⟩) (HW.out.block b (HD1.out b hb'))) ⟨hz1, _, _, rfl, hd1, hs1⟩
        have hE2' : FragE ((wr.alloc (.cells #[.string ⟨x.nm.toArray⟩, .string ⟨x.on_.toArray⟩, .slice ad1 x.dirs.length cd1, .slice as1 x.sels.length cs1] 61)).alloc (.cells #[.string ⟨y.nm.toArray⟩, .string ⟨y.on_.toArray⟩, .slice ad2 y.dirs.length cd2, .slice as2 y.sels.length cs2] 61)) D2 y [.string ⟨y.nm.toArray⟩, .string ⟨y.on_.toArray⟩, .slice ad2 y.dirs.length cd2, .slice as2 y.sels.length cs2] := (fragOk).step (fun _ h => h) (fun b o hb' => World.cell?_of_block (a := ⟨b, o, none⟩) (HW.out.block b (HD2.out b hb'))) ⟨hz2, _, _, rfl, hd2, hs2⟩
        have HCL : Calls Tryz.prog 76 #[.agg #[.string ⟨x.nm.toArray⟩, .string ⟨x.on_.toArray⟩, .slice ad1 x.dirs.length cd1, .slice as1 x.sels.length cs1], .agg #[.string ⟨y.nm.toArray⟩, .string ⟨y.on_.toArray⟩, .slice ad2 y.dirs.length cd2, .slice as2 y.sels.length cs2]] ((wr.alloc (.cells #[.string ⟨x.nm.toArray⟩, .string ⟨x.on_.toArray⟩, .slice ad1 x.dirs.length cd1, .slice as1 x.sels.length cs1] 61)).alloc (.cells #[.string ⟨y.nm.toArray⟩, .string ⟨y.on_.toArray⟩, .slice ad2 y.dirs.length cd2, .slice as2 y.sels.length cs2] 61)) _ := hLHC [.string ⟨x.nm.toArray⟩, .string ⟨x.on_.toArray⟩, .slice ad1 x.dirs.length cd1, .slice as1 x.sels.length cs1] [.string ⟨y.nm.toArray⟩, .string ⟨y.on_.toArray⟩, .slice ad2 y.dirs.length cd2, .slice as2 y.sels.length cs2] _ HW.out hE1' hE2'
        have hszw : wr.heap.size ≤ ((wr.alloc (.cells #[.string ⟨x.nm.toArray⟩, .string ⟨x.on_.toArray⟩, .slice ad1 x.dirs.length cd1, .slice as1 x.sels.length cs1] 61)).alloc (.cells #[.string ⟨y.nm.toArray⟩, .string ⟨y.on_.toArray⟩, .slice ad2 y.dirs.length cd2, .slice as2 y.sels.length cs2] 61)).heap.size := by simp; omega
        clear hb hel1 hel2 hcsg1 hcsg2 hE1' hE2' hg1c hg2c hcl1 hcl2 hd1 hs1 hd2 hs2 hLHC
        have HSZ := Lib.hid (Nat.le_trans HB.out.size hszw)
        clear hszw
        go_wp2_with fail
        refine HCL.mono ?_
        rintro e w2 ⟨r, rfl, hr, hb2⟩
        have HB3 := Lib.hid (HW.out.trans (hb2.mono HSZ.out))
        clear hb2 HCL
        cases r with
        | true =>
          have HE := Lib.hid (HTK.out (hr.1 rfl))
          clear hr
          go_wp2_with fail
          go_roundg (xs.length - (i + 1))
          case measure => omega
          case rel => exact ⟨i + 1, by simp, by omega, rfl, HE, HB3.out⟩
        | false =>
          have HE := Lib.hid (HNE.out (fun h => by have := hr.2 h; cases this))
          clear hr
          go_wp2_with fail
          go_ret
          exact ⟨false, rfl, ⟨(fun h => by cases h), fun h => absurd h HE.out⟩, HB3.out⟩
      · have hd : decide ((i : Int) < (xs.length : Int)) = false := decide_eq_false (by omega)
        have hd2 : decide (i < xs.length) = false := decide_eq_false hlt
        have HE := Lib.hid (show xs = ys by
          have := HT.out
          rwa [List.take_of_length_le (by omega), List.take_of_length_le (by rw [← HLL.out]; omega)] at this)
        clear hb
        go_wp2_with fail
        go_ret
        exact ⟨true, rfl, ⟨fun _ => HE.out, fun _ => rfl⟩, HB.out⟩
  · have h1 : ((xs.length : Int) == (ys.length : Int)) = false := by rw [beq_eq_false_iff_ne]; omega
    have h2 : ((xs.length : Int) != (ys.length : Int)) = true := by unfold bne; rw [h1]; rfl
    have h3 : (xs.length == ys.length) = false := by rw [beq_eq_false_iff_ne]; omega
    have HE := Lib.hid (show xs ≠ ys from fun e => hll (by rw [e]))
    clear HR1 HR2 HF HD1 HD2
    go_enter Tryz.func75, Tryz.ntmps75
    go_wp2_with fail
    go_ret
    exact ⟨false, rfl, ⟨(fun h => by cases h), fun h => absurd h HE.out⟩, Below.refl _ _⟩

end Go.Proofs.YtkfllppggjhhmaaGreatDoor
