/-
  print.isSame: arguments to documents.
-/
import Derived.Test.YtkfllppggjhhmaaGreatDoorMPis1
namespace Go.Proofs.YtkfllppggjhhmaaGreatDoor
open Go.RowKit
set_option linter.unusedVariables false

theorem var_eq {x y : VarT} : x = y ↔ x.nm = y.nm ∧ x.ty.1 = y.ty.1 ∧ x.ty.2 = y.ty.2 ∧ x.dflt = y.dflt := by
  obtain ⟨a, ⟨b, c⟩, d⟩ := x
  obtain ⟨a', ⟨b', c'⟩, d'⟩ := y
  constructor
  · intro h; injection h with h1 h2 h3; injection h2 with h2 h4; exact ⟨h1, h2, h4, h3⟩
  · rintro ⟨h1, h2, h3, h4⟩
    simp only at h1 h2 h3 h4
    rw [h1, h2, h3, h4]
theorem sel_eq {x y : SelT} : x = y ↔ x.k = y.k ∧ x.al = y.al ∧ x.nm = y.nm ∧ x.on_ = y.on_ ∧ x.args = y.args ∧ x.dirs = y.dirs ∧ x.sels = y.sels := by
  cases x; cases y
  constructor
  · intro h; injection h with h1 h2 h3 h4 h5 h6 h7; exact ⟨h1, h2, h3, h4, h5, h6, h7⟩
  · rintro ⟨h1, h2, h3, h4, h5, h6, h7⟩
    simp only [SelT.k, SelT.al, SelT.nm, SelT.on_, SelT.args, SelT.dirs, SelT.sels] at h1 h2 h3 h4 h5 h6 h7
    rw [h1, h2, h3, h4, h5, h6, h7]
theorem op_eq {x y : OpT} : x = y ↔ x.mut_ = y.mut_ ∧ x.nm = y.nm ∧ x.vars = y.vars ∧ x.dirs = y.dirs ∧ x.sels = y.sels := by
  cases x; cases y
  constructor
  · intro h; injection h with h1 h2 h3 h4 h5; exact ⟨h1, h2, h3, h4, h5⟩
  · rintro ⟨h1, h2, h3, h4, h5⟩
    simp only at h1 h2 h3 h4 h5
    rw [h1, h2, h3, h4, h5]
theorem frag_eq {x y : FragT} : x = y ↔ x.nm = y.nm ∧ x.on_ = y.on_ ∧ x.dirs = y.dirs ∧ x.sels = y.sels := by
  cases x; cases y
  constructor
  · intro h; injection h with h1 h2 h3 h4; exact ⟨h1, h2, h3, h4⟩
  · rintro ⟨h1, h2, h3, h4⟩
    simp only at h1 h2 h3 h4
    rw [h1, h2, h3, h4]
theorem doc_eq {x y : DocT} : x = y ↔ x.ops = y.ops ∧ x.frags = y.frags := by
  cases x; cases y
  constructor
  · intro h; injection h with h1 h2; exact ⟨h1, h2⟩
  · rintro ⟨h1, h2⟩
    simp only at h1 h2
    rw [h1, h2]

set_option maxHeartbeats 3000000 in
set_option maxRecDepth 100000 in
theorem sameArg_any {D1 D2 : Nat → Prop} {x y : ArgT} {cs ds : List Value} (w : World) (hD1 : ∀ b, D1 b → b < w.heap.size) (hD2 : ∀ b, D2 b → b < w.heap.size) (hE1 : ArgE w D1 x cs) (hE2 : ArgE w D2 y ds) :
    Calls Tryz.prog 162 #[.agg cs.toArray, .agg ds.toArray] w (EqAns (x = y) w) := by
  obtain ⟨hz1, c0, c1, c2, c3, rfl, hR1⟩ := hE1
  obtain ⟨an1, cn1, ap1, cp1, hsh⟩ := hR1.shape
  obtain ⟨rfl, rfl, rfl, rfl⟩ := agg4_inj' hsh
  clear hsh
  obtain ⟨hz2, c0, c1, c2, c3, rfl, hR2⟩ := hE2
  obtain ⟨an2, cn2, ap2, cp2, hsh⟩ := hR2.shape
  obtain ⟨rfl, rfl, rfl, rfl⟩ := agg4_inj' hsh
  clear hsh
  obtain ⟨n1, hV1⟩ := hR1
  obtain ⟨n2, hV2⟩ := hR2
  have HV1 := Lib.hid hV1
  have HV2 := Lib.hid hV2
  clear hV1 hV2
  have HD1 := Lib.hid hD1
  have HD2 := Lib.hid hD2
  clear hD1 hD2
  have HB := Lib.hid (((Below.refl w.heap.size w).alloc (Nat.le_refl _) (.cells #[.string ⟨x.1.toArray⟩, .int .i64 x.2.k, .string x.2.s, .slice an1 x.2.ns.length cn1, .slice ap1 x.2.ps.length cp1] 55)).alloc (by simp) (.cells #[.string ⟨y.1.toArray⟩, .int .i64 y.2.k, .string y.2.s, .slice an2 y.2.ns.length cn2, .slice ap2 y.2.ps.length cp2] 55))
  have HX := Lib.hid (show ((w.alloc (.cells #[.string ⟨x.1.toArray⟩, .int .i64 x.2.k, .string x.2.s, .slice an1 x.2.ns.length cn1, .slice ap1 x.2.ps.length cp1] 55)).alloc (.cells #[.string ⟨y.1.toArray⟩, .int .i64 y.2.k, .string y.2.s, .slice an2 y.2.ns.length cn2, .slice ap2 y.2.ps.length cp2] 55)).heap[w.heap.size]? = some (.cells #[.string ⟨x.1.toArray⟩, .int .i64 x.2.k, .string x.2.s, .slice an1 x.2.ns.length cn1, .slice ap1 x.2.ps.length cp1] 55) from (Below.heap_alloc _ _ _ (by simp)).trans (heap_alloc_new _ _))
  have HY := Lib.hid (show ((w.alloc (.cells #[.string ⟨x.1.toArray⟩, .int .i64 x.2.k, .string x.2.s, .slice an1 x.2.ns.length cn1, .slice ap1 x.2.ps.length cp1] 55)).alloc (.cells #[.string ⟨y.1.toArray⟩, .int .i64 y.2.k, .string y.2.s, .slice an2 y.2.ns.length cn2, .slice ap2 y.2.ps.length cp2] 55)).heap[w.heap.size + 1]? = some (.cells #[.string ⟨y.1.toArray⟩, .int .i64 y.2.k, .string y.2.s, .slice an2 y.2.ns.length cn2, .slice ap2 y.2.ps.length cp2] 55) from by have := heap_alloc_new (w.alloc (.cells #[.string ⟨x.1.toArray⟩, .int .i64 x.2.k, .string x.2.s, .slice an1 x.2.ns.length cn1, .slice ap1 x.2.ps.length cp1] 55)) (.cells #[.string ⟨y.1.toArray⟩, .int .i64 y.2.k, .string y.2.s, .slice an2 y.2.ns.length cn2, .slice ap2 y.2.ps.length cp2] 55); rwa [show (w.alloc (.cells #[.string ⟨x.1.toArray⟩, .int .i64 x.2.k, .string x.2.s, .slice an1 x.2.ns.length cn1, .slice ap1 x.2.ps.length cp1] 55)).heap.size = w.heap.size + 1 by simp] at this)
  have HQ := Lib.hid ((show x = y ↔ x.1 = y.1 ∧ x.2 = y.2 from Prod.ext_iff))
  have HSZ := Lib.hid (show w.heap.size + 2 ≤ ((w.alloc (.cells #[.string ⟨x.1.toArray⟩, .int .i64 x.2.k, .string x.2.s, .slice an1 x.2.ns.length cn1, .slice ap1 x.2.ps.length cp1] 55)).alloc (.cells #[.string ⟨y.1.toArray⟩, .int .i64 y.2.k, .string y.2.s, .slice an2 y.2.ns.length cn2, .slice ap2 y.2.ps.length cp2] 55)).heap.size by simp)
  by_cases h0 : x.1 = y.1
  rotate_left
  · have e0 : (x.1 == y.1) = false := by rw [beq_eq_false_iff_ne]; exact h0
    have HE := Lib.hid (show ¬ (x = y) from fun h => h0 (HQ.out.1 h).1)
    clear HX HY HSZ HQ HV1 HV2 HD1 HD2
    clear h0
    show Calls Tryz.prog 162 #[.agg #[.string ⟨x.1.toArray⟩, .int .i64 x.2.k, .string x.2.s, .slice an1 x.2.ns.length cn1, .slice ap1 x.2.ps.length cp1], .agg #[.string ⟨y.1.toArray⟩, .int .i64 y.2.k, .string y.2.s, .slice an2 y.2.ns.length cn2, .slice ap2 y.2.ps.length cp2]] w _
    go_enter Tryz.func162, Tryz.ntmps162
    go_wp2_with fail
    go_ret
    exact ⟨false, rfl, ⟨(fun h => by cases h), fun h => absurd h HE.out⟩, HB.out⟩
  have e0 : (x.1 == y.1) = true := by rw [h0]; exact beq_self_eq_true _
  have H0 := Lib.hid h0
  clear h0
  have HC := sameVal_any n2 n1 x.2 y.2 _ _ ((w.alloc (.cells #[.string ⟨x.1.toArray⟩, .int .i64 x.2.k, .string x.2.s, .slice an1 x.2.ns.length cn1, .slice ap1 x.2.ps.length cp1] 55)).alloc (.cells #[.string ⟨y.1.toArray⟩, .int .i64 y.2.k, .string y.2.s, .slice an2 y.2.ns.length cn2, .slice ap2 y.2.ps.length cp2] 55)) D1 D2 (fun b h => Nat.lt_of_lt_of_le (HD1.out b h) HB.out.size) (fun b h => Nat.lt_of_lt_of_le (HD2.out b h) HB.out.size) (RdD.step (fun _ h => h) (fun b o hb => World.cell?_of_block (a := ⟨b, o, none⟩) (HB.out.block b (HD1.out b hb))) HV1.out) (RdD.step (fun _ h => h) (fun b o hb => World.cell?_of_block (a := ⟨b, o, none⟩) (HB.out.block b (HD2.out b hb))) HV2.out)
  show Calls Tryz.prog 162 #[.agg #[.string ⟨x.1.toArray⟩, .int .i64 x.2.k, .string x.2.s, .slice an1 x.2.ns.length cn1, .slice ap1 x.2.ps.length cp1], .agg #[.string ⟨y.1.toArray⟩, .int .i64 y.2.k, .string y.2.s, .slice an2 y.2.ns.length cn2, .slice ap2 y.2.ps.length cp2]] w _
  go_enter Tryz.func162, Tryz.ntmps162
  go_wp2_with fail
  refine HC.mono ?_
  rintro e w1 ⟨r, rfl, hr, hb⟩
  have HB1 := Lib.hid (HB.out.trans (hb.mono HB.out.size))
  have HX1 := Lib.hid ((hb.block _ (by have := HSZ.out; omega)).trans HX.out)
  have HY1 := Lib.hid ((hb.block _ (by have := HSZ.out; omega)).trans HY.out)
  have HL1 := Lib.hid (show w.heap.size + 2 ≤ w1.heap.size from Nat.le_trans HSZ.out hb.size)
  clear hb HC
  cases r with
  | false =>
    have HE := Lib.hid (show ¬ (x = y) from fun h => by have := hr.2 ((HQ.out.1 h).2); cases this)
    clear hr
    go_wp2_with fail
    go_ret
    exact ⟨false, rfl, ⟨(fun h => by cases h), fun h => absurd h HE.out⟩, HB1.out⟩
  | true =>
    have HP1 := Lib.hid (hr.1 rfl)
    clear hr
    obtain ⟨p0, p1, p2, p3, p4, pf, pl⟩ := bk5 HX1.out
    obtain ⟨q0, q1, q2, q3, q4, qf, ql⟩ := bk5 HY1.out
    go_wp2_with fail
    go_ret
    exact ⟨true, rfl, ⟨fun _ => HQ.out.2 ⟨H0.out, HP1.out⟩, fun _ => rfl⟩, HB1.out⟩

set_option maxHeartbeats 3000000 in
set_option maxRecDepth 100000 in
theorem sameDir_any {D1 D2 : Nat → Prop} {x y : DirT} {cs ds : List Value} (w : World) (hD1 : ∀ b, D1 b → b < w.heap.size) (hD2 : ∀ b, D2 b → b < w.heap.size) (hE1 : DirE w D1 x cs) (hE2 : DirE w D2 y ds) :
    Calls Tryz.prog 116 #[.agg cs.toArray, .agg ds.toArray] w (EqAns (x = y) w) := by
  obtain ⟨hz1, v0, rfl, hR1⟩ := hE1
  obtain ⟨an1, cn1, rfl⟩ := hR1.shape
  obtain ⟨hz2, v0, rfl, hR2⟩ := hE2
  obtain ⟨an2, cn2, rfl⟩ := hR2.shape
  have HR1 := Lib.hid hR1
  clear hR1
  have HR2 := Lib.hid hR2
  clear hR2
  have HD1 := Lib.hid hD1
  have HD2 := Lib.hid hD2
  clear hD1 hD2
  have HB := Lib.hid (((Below.refl w.heap.size w).alloc (Nat.le_refl _) (.cells #[.string ⟨x.1.toArray⟩, .slice an1 x.2.length cn1] 67)).alloc (by simp) (.cells #[.string ⟨y.1.toArray⟩, .slice an2 y.2.length cn2] 67))
  have HX := Lib.hid (show ((w.alloc (.cells #[.string ⟨x.1.toArray⟩, .slice an1 x.2.length cn1] 67)).alloc (.cells #[.string ⟨y.1.toArray⟩, .slice an2 y.2.length cn2] 67)).heap[w.heap.size]? = some (.cells #[.string ⟨x.1.toArray⟩, .slice an1 x.2.length cn1] 67) from (Below.heap_alloc _ _ _ (by simp)).trans (heap_alloc_new _ _))
  have HY := Lib.hid (show ((w.alloc (.cells #[.string ⟨x.1.toArray⟩, .slice an1 x.2.length cn1] 67)).alloc (.cells #[.string ⟨y.1.toArray⟩, .slice an2 y.2.length cn2] 67)).heap[w.heap.size + 1]? = some (.cells #[.string ⟨y.1.toArray⟩, .slice an2 y.2.length cn2] 67) from by have := heap_alloc_new (w.alloc (.cells #[.string ⟨x.1.toArray⟩, .slice an1 x.2.length cn1] 67)) (.cells #[.string ⟨y.1.toArray⟩, .slice an2 y.2.length cn2] 67); rwa [show (w.alloc (.cells #[.string ⟨x.1.toArray⟩, .slice an1 x.2.length cn1] 67)).heap.size = w.heap.size + 1 by simp] at this)
  have HQ := Lib.hid ((show x = y ↔ x.1 = y.1 ∧ x.2 = y.2 from Prod.ext_iff))
  have HSZ := Lib.hid (show w.heap.size + 2 ≤ ((w.alloc (.cells #[.string ⟨x.1.toArray⟩, .slice an1 x.2.length cn1] 67)).alloc (.cells #[.string ⟨y.1.toArray⟩, .slice an2 y.2.length cn2] 67)).heap.size by simp)
  by_cases h0 : x.1 = y.1
  rotate_left
  · have e0 : (x.1 == y.1) = false := by rw [beq_eq_false_iff_ne]; exact h0
    have HE := Lib.hid (show ¬ (x = y) from fun h => h0 (HQ.out.1 h).1)
    clear HX HY HSZ HQ HR1 HR2 HD1 HD2
    clear h0
    show Calls Tryz.prog 116 #[.agg #[.string ⟨x.1.toArray⟩, .slice an1 x.2.length cn1], .agg #[.string ⟨y.1.toArray⟩, .slice an2 y.2.length cn2]] w _
    go_enter Tryz.func116, Tryz.ntmps116
    go_wp2_with fail
    go_ret
    exact ⟨false, rfl, ⟨(fun h => by cases h), fun h => absurd h HE.out⟩, HB.out⟩
  have e0 : (x.1 == y.1) = true := by rw [h0]; exact beq_self_eq_true _
  have H0 := Lib.hid h0
  clear h0
  have HC := eqfArg_any ((w.alloc (.cells #[.string ⟨x.1.toArray⟩, .slice an1 x.2.length cn1] 67)).alloc (.cells #[.string ⟨y.1.toArray⟩, .slice an2 y.2.length cn2] 67)) (RowD.step argOk (fun _ h => h) (fun b o hb => World.cell?_of_block (a := ⟨b, o, none⟩) (HB.out.block b (HD1.out b hb))) HR1.out) (RowD.step argOk (fun _ h => h) (fun b o hb => World.cell?_of_block (a := ⟨b, o, none⟩) (HB.out.block b (HD2.out b hb))) HR2.out) (fun b h => Nat.lt_of_lt_of_le (HD1.out b h) HB.out.size) (fun b h => Nat.lt_of_lt_of_le (HD2.out b h) HB.out.size) (fun x _ y _ cs ds W hb hE1 hE2 => sameArg_any W (fun b h => Nat.lt_of_lt_of_le (HD1.out b h) (Nat.le_trans HB.out.size hb.size)) (fun b h => Nat.lt_of_lt_of_le (HD2.out b h) (Nat.le_trans HB.out.size hb.size)) hE1 hE2)
  show Calls Tryz.prog 116 #[.agg #[.string ⟨x.1.toArray⟩, .slice an1 x.2.length cn1], .agg #[.string ⟨y.1.toArray⟩, .slice an2 y.2.length cn2]] w _
  go_enter Tryz.func116, Tryz.ntmps116
  go_wp2_with fail
  refine HC.mono ?_
  rintro e w1 ⟨r, rfl, hr, hb⟩
  have HB1 := Lib.hid (HB.out.trans (hb.mono HB.out.size))
  have HX1 := Lib.hid ((hb.block _ (by have := HSZ.out; omega)).trans HX.out)
  have HY1 := Lib.hid ((hb.block _ (by have := HSZ.out; omega)).trans HY.out)
  have HL1 := Lib.hid (show w.heap.size + 2 ≤ w1.heap.size from Nat.le_trans HSZ.out hb.size)
  clear hb HC
  cases r with
  | false =>
    have HE := Lib.hid (show ¬ (x = y) from fun h => by have := hr.2 ((HQ.out.1 h).2); cases this)
    clear hr
    go_wp2_with fail
    go_ret
    exact ⟨false, rfl, ⟨(fun h => by cases h), fun h => absurd h HE.out⟩, HB1.out⟩
  | true =>
    have HP1 := Lib.hid (hr.1 rfl)
    clear hr
    obtain ⟨p0, p1, pf, pl⟩ := bk2 HX1.out
    obtain ⟨q0, q1, qf, ql⟩ := bk2 HY1.out
    go_wp2_with fail
    go_ret
    exact ⟨true, rfl, ⟨fun _ => HQ.out.2 ⟨H0.out, HP1.out⟩, fun _ => rfl⟩, HB1.out⟩

set_option maxHeartbeats 3000000 in
set_option maxRecDepth 100000 in
theorem sameVar_any {D1 D2 : Nat → Prop} {x y : VarT} {cs ds : List Value} (w : World) (hD1 : ∀ b, D1 b → b < w.heap.size) (hD2 : ∀ b, D2 b → b < w.heap.size) (hE1 : VarE w D1 x cs) (hE2 : VarE w D2 y ds) :
    Calls Tryz.prog 114 #[.agg cs.toArray, .agg ds.toArray] w (EqAns (x = y) w) := by
  obtain ⟨hz1, c0, c1, c2, c3, rfl, hR1⟩ := hE1
  obtain ⟨an1, cn1, ap1, cp1, hsh⟩ := hR1.shape
  obtain ⟨rfl, rfl, rfl, rfl⟩ := agg4_inj' hsh
  clear hsh
  obtain ⟨hz2, c0, c1, c2, c3, rfl, hR2⟩ := hE2
  obtain ⟨an2, cn2, ap2, cp2, hsh⟩ := hR2.shape
  obtain ⟨rfl, rfl, rfl, rfl⟩ := agg4_inj' hsh
  clear hsh
  obtain ⟨n1, hV1⟩ := hR1
  obtain ⟨n2, hV2⟩ := hR2
  have HV1 := Lib.hid hV1
  have HV2 := Lib.hid hV2
  clear hV1 hV2
  have HD1 := Lib.hid hD1
  have HD2 := Lib.hid hD2
  clear hD1 hD2
  have HB := Lib.hid (((Below.refl w.heap.size w).alloc (Nat.le_refl _) (.cells #[.string ⟨x.nm.toArray⟩, .string ⟨x.ty.1.toArray⟩, .string ⟨x.ty.2.toArray⟩, .int .i64 x.dflt.k, .string x.dflt.s, .slice an1 x.dflt.ns.length cn1, .slice ap1 x.dflt.ps.length cp1] 59)).alloc (by simp) (.cells #[.string ⟨y.nm.toArray⟩, .string ⟨y.ty.1.toArray⟩, .string ⟨y.ty.2.toArray⟩, .int .i64 y.dflt.k, .string y.dflt.s, .slice an2 y.dflt.ns.length cn2, .slice ap2 y.dflt.ps.length cp2] 59))
  have HX := Lib.hid (show ((w.alloc (.cells #[.string ⟨x.nm.toArray⟩, .string ⟨x.ty.1.toArray⟩, .string ⟨x.ty.2.toArray⟩, .int .i64 x.dflt.k, .string x.dflt.s, .slice an1 x.dflt.ns.length cn1, .slice ap1 x.dflt.ps.length cp1] 59)).alloc (.cells #[.string ⟨y.nm.toArray⟩, .string ⟨y.ty.1.toArray⟩, .string ⟨y.ty.2.toArray⟩, .int .i64 y.dflt.k, .string y.dflt.s, .slice an2 y.dflt.ns.length cn2, .slice ap2 y.dflt.ps.length cp2] 59)).heap[w.heap.size]? = some (.cells #[.string ⟨x.nm.toArray⟩, .string ⟨x.ty.1.toArray⟩, .string ⟨x.ty.2.toArray⟩, .int .i64 x.dflt.k, .string x.dflt.s, .slice an1 x.dflt.ns.length cn1, .slice ap1 x.dflt.ps.length cp1] 59) from (Below.heap_alloc _ _ _ (by simp)).trans (heap_alloc_new _ _))
  have HY := Lib.hid (show ((w.alloc (.cells #[.string ⟨x.nm.toArray⟩, .string ⟨x.ty.1.toArray⟩, .string ⟨x.ty.2.toArray⟩, .int .i64 x.dflt.k, .string x.dflt.s, .slice an1 x.dflt.ns.length cn1, .slice ap1 x.dflt.ps.length cp1] 59)).alloc (.cells #[.string ⟨y.nm.toArray⟩, .string ⟨y.ty.1.toArray⟩, .string ⟨y.ty.2.toArray⟩, .int .i64 y.dflt.k, .string y.dflt.s, .slice an2 y.dflt.ns.length cn2, .slice ap2 y.dflt.ps.length cp2] 59)).heap[w.heap.size + 1]? = some (.cells #[.string ⟨y.nm.toArray⟩, .string ⟨y.ty.1.toArray⟩, .string ⟨y.ty.2.toArray⟩, .int .i64 y.dflt.k, .string y.dflt.s, .slice an2 y.dflt.ns.length cn2, .slice ap2 y.dflt.ps.length cp2] 59) from by have := heap_alloc_new (w.alloc (.cells #[.string ⟨x.nm.toArray⟩, .string ⟨x.ty.1.toArray⟩, .string ⟨x.ty.2.toArray⟩, .int .i64 x.dflt.k, .string x.dflt.s, .slice an1 x.dflt.ns.length cn1, .slice ap1 x.dflt.ps.length cp1] 59)) (.cells #[.string ⟨y.nm.toArray⟩, .string ⟨y.ty.1.toArray⟩, .string ⟨y.ty.2.toArray⟩, .int .i64 y.dflt.k, .string y.dflt.s, .slice an2 y.dflt.ns.length cn2, .slice ap2 y.dflt.ps.length cp2] 59); rwa [show (w.alloc (.cells #[.string ⟨x.nm.toArray⟩, .string ⟨x.ty.1.toArray⟩, .string ⟨x.ty.2.toArray⟩, .int .i64 x.dflt.k, .string x.dflt.s, .slice an1 x.dflt.ns.length cn1, .slice ap1 x.dflt.ps.length cp1] 59)).heap.size = w.heap.size + 1 by simp] at this)
  have HQ := Lib.hid (@var_eq x y)
  have HSZ := Lib.hid (show w.heap.size + 2 ≤ ((w.alloc (.cells #[.string ⟨x.nm.toArray⟩, .string ⟨x.ty.1.toArray⟩, .string ⟨x.ty.2.toArray⟩, .int .i64 x.dflt.k, .string x.dflt.s, .slice an1 x.dflt.ns.length cn1, .slice ap1 x.dflt.ps.length cp1] 59)).alloc (.cells #[.string ⟨y.nm.toArray⟩, .string ⟨y.ty.1.toArray⟩, .string ⟨y.ty.2.toArray⟩, .int .i64 y.dflt.k, .string y.dflt.s, .slice an2 y.dflt.ns.length cn2, .slice ap2 y.dflt.ps.length cp2] 59)).heap.size by simp)
  by_cases h0 : x.nm = y.nm
  rotate_left
  · have e0 : (x.nm == y.nm) = false := by rw [beq_eq_false_iff_ne]; exact h0
    have HE := Lib.hid (show ¬ (x = y) from fun h => h0 (HQ.out.1 h).1)
    clear HX HY HSZ HQ HV1 HV2 HD1 HD2
    clear h0
    show Calls Tryz.prog 114 #[.agg #[.string ⟨x.nm.toArray⟩, .string ⟨x.ty.1.toArray⟩, .string ⟨x.ty.2.toArray⟩, .int .i64 x.dflt.k, .string x.dflt.s, .slice an1 x.dflt.ns.length cn1, .slice ap1 x.dflt.ps.length cp1], .agg #[.string ⟨y.nm.toArray⟩, .string ⟨y.ty.1.toArray⟩, .string ⟨y.ty.2.toArray⟩, .int .i64 y.dflt.k, .string y.dflt.s, .slice an2 y.dflt.ns.length cn2, .slice ap2 y.dflt.ps.length cp2]] w _
    go_enter Tryz.func114, Tryz.ntmps114
    go_wp2_with fail
    go_ret
    exact ⟨false, rfl, ⟨(fun h => by cases h), fun h => absurd h HE.out⟩, HB.out⟩
  have e0 : (x.nm == y.nm) = true := by rw [h0]; exact beq_self_eq_true _
  by_cases h1 : x.ty.1 = y.ty.1
  rotate_left
  · have e1 : (x.ty.1 == y.ty.1) = false := by rw [beq_eq_false_iff_ne]; exact h1
    have HE := Lib.hid (show ¬ (x = y) from fun h => h1 (HQ.out.1 h).2.1)
    clear HX HY HSZ HQ HV1 HV2 HD1 HD2
    clear h0
    clear h1
    show Calls Tryz.prog 114 #[.agg #[.string ⟨x.nm.toArray⟩, .string ⟨x.ty.1.toArray⟩, .string ⟨x.ty.2.toArray⟩, .int .i64 x.dflt.k, .string x.dflt.s, .slice an1 x.dflt.ns.length cn1, .slice ap1 x.dflt.ps.length cp1], .agg #[.string ⟨y.nm.toArray⟩, .string ⟨y.ty.1.toArray⟩, .string ⟨y.ty.2.toArray⟩, .int .i64 y.dflt.k, .string y.dflt.s, .slice an2 y.dflt.ns.length cn2, .slice ap2 y.dflt.ps.length cp2]] w _
    go_enter Tryz.func114, Tryz.ntmps114
    go_wp2_with fail
    go_ret
    exact ⟨false, rfl, ⟨(fun h => by cases h), fun h => absurd h HE.out⟩, HB.out⟩
  have e1 : (x.ty.1 == y.ty.1) = true := by rw [h1]; exact beq_self_eq_true _
  by_cases h2 : x.ty.2 = y.ty.2
  rotate_left
  · have e2 : (x.ty.2 == y.ty.2) = false := by rw [beq_eq_false_iff_ne]; exact h2
    have HE := Lib.hid (show ¬ (x = y) from fun h => h2 (HQ.out.1 h).2.2.1)
    clear HX HY HSZ HQ HV1 HV2 HD1 HD2
    clear h0
    clear h1
    clear h2
    show Calls Tryz.prog 114 #[.agg #[.string ⟨x.nm.toArray⟩, .string ⟨x.ty.1.toArray⟩, .string ⟨x.ty.2.toArray⟩, .int .i64 x.dflt.k, .string x.dflt.s, .slice an1 x.dflt.ns.length cn1, .slice ap1 x.dflt.ps.length cp1], .agg #[.string ⟨y.nm.toArray⟩, .string ⟨y.ty.1.toArray⟩, .string ⟨y.ty.2.toArray⟩, .int .i64 y.dflt.k, .string y.dflt.s, .slice an2 y.dflt.ns.length cn2, .slice ap2 y.dflt.ps.length cp2]] w _
    go_enter Tryz.func114, Tryz.ntmps114
    go_wp2_with fail
    go_ret
    exact ⟨false, rfl, ⟨(fun h => by cases h), fun h => absurd h HE.out⟩, HB.out⟩
  have e2 : (x.ty.2 == y.ty.2) = true := by rw [h2]; exact beq_self_eq_true _
  have H0 := Lib.hid h0
  clear h0
  have H1 := Lib.hid h1
  clear h1
  have H2 := Lib.hid h2
  clear h2
  have HC := sameVal_any n2 n1 x.dflt y.dflt _ _ ((w.alloc (.cells #[.string ⟨x.nm.toArray⟩, .string ⟨x.ty.1.toArray⟩, .string ⟨x.ty.2.toArray⟩, .int .i64 x.dflt.k, .string x.dflt.s, .slice an1 x.dflt.ns.length cn1, .slice ap1 x.dflt.ps.length cp1] 59)).alloc (.cells #[.string ⟨y.nm.toArray⟩, .string ⟨y.ty.1.toArray⟩, .string ⟨y.ty.2.toArray⟩, .int .i64 y.dflt.k, .string y.dflt.s, .slice an2 y.dflt.ns.length cn2, .slice ap2 y.dflt.ps.length cp2] 59)) D1 D2 (fun b h => Nat.lt_of_lt_of_le (HD1.out b h) HB.out.size) (fun b h => Nat.lt_of_lt_of_le (HD2.out b h) HB.out.size) (RdD.step (fun _ h => h) (fun b o hb => World.cell?_of_block (a := ⟨b, o, none⟩) (HB.out.block b (HD1.out b hb))) HV1.out) (RdD.step (fun _ h => h) (fun b o hb => World.cell?_of_block (a := ⟨b, o, none⟩) (HB.out.block b (HD2.out b hb))) HV2.out)
  show Calls Tryz.prog 114 #[.agg #[.string ⟨x.nm.toArray⟩, .string ⟨x.ty.1.toArray⟩, .string ⟨x.ty.2.toArray⟩, .int .i64 x.dflt.k, .string x.dflt.s, .slice an1 x.dflt.ns.length cn1, .slice ap1 x.dflt.ps.length cp1], .agg #[.string ⟨y.nm.toArray⟩, .string ⟨y.ty.1.toArray⟩, .string ⟨y.ty.2.toArray⟩, .int .i64 y.dflt.k, .string y.dflt.s, .slice an2 y.dflt.ns.length cn2, .slice ap2 y.dflt.ps.length cp2]] w _
  go_enter Tryz.func114, Tryz.ntmps114
  go_wp2_with fail
  refine HC.mono ?_
  rintro e w1 ⟨r, rfl, hr, hb⟩
  have HB1 := Lib.hid (HB.out.trans (hb.mono HB.out.size))
  have HX1 := Lib.hid ((hb.block _ (by have := HSZ.out; omega)).trans HX.out)
  have HY1 := Lib.hid ((hb.block _ (by have := HSZ.out; omega)).trans HY.out)
  have HL1 := Lib.hid (show w.heap.size + 2 ≤ w1.heap.size from Nat.le_trans HSZ.out hb.size)
  clear hb HC
  cases r with
  | false =>
    have HE := Lib.hid (show ¬ (x = y) from fun h => by have := hr.2 ((HQ.out.1 h).2.2.2); cases this)
    clear hr
    go_wp2_with fail
    go_ret
    exact ⟨false, rfl, ⟨(fun h => by cases h), fun h => absurd h HE.out⟩, HB1.out⟩
  | true =>
    have HP1 := Lib.hid (hr.1 rfl)
    clear hr
    obtain ⟨p0, p1, p2, p3, p4, p5, p6, pf, pl⟩ := bk7 HX1.out
    obtain ⟨q0, q1, q2, q3, q4, q5, q6, qf, ql⟩ := bk7 HY1.out
    go_wp2_with fail
    go_ret
    exact ⟨true, rfl, ⟨fun _ => HQ.out.2 ⟨H0.out, H1.out, H2.out, HP1.out⟩, fun _ => rfl⟩, HB1.out⟩

def SameSelAt (m : Nat) : Prop := ∀ (n1 : Nat) (x y : SelT) (cs ds : List Value) (w : World) (D1 D2 : Nat → Prop), (∀ b, D1 b → b < w.heap.size) → (∀ b, D2 b → b < w.heap.size) → SelE n1 w D1 x cs → SelE m w D2 y ds →
  Calls Tryz.prog 118 #[.agg cs.toArray, .agg ds.toArray] w (EqAns (x = y) w)

set_option maxHeartbeats 3000000 in
set_option maxRecDepth 100000 in
theorem sameSel_step (m : Nat) (ih : ∀ m', m = m' + 1 → SameSelAt m') : SameSelAt m := by
  intro n1 x y cs ds w D1 D2 hD1 hD2 hE1 hE2
  match n1, m, hE1, hE2, ih with
  | n1 + 1, m + 1, hE1, hE2, ih =>
  obtain ⟨hz1, va, vd, vs, rfl, ha1, hd1, hs1⟩ := hE1
  obtain ⟨aa1, ca1, rfl⟩ := ha1.shape
  obtain ⟨ad1, cd1, rfl⟩ := hd1.shape
  obtain ⟨as1, cs1, rfl⟩ := hs1.shape
  obtain ⟨hz2, va, vd, vs, rfl, ha2, hd2, hs2⟩ := hE2
  obtain ⟨aa2, ca2, rfl⟩ := ha2.shape
  obtain ⟨ad2, cd2, rfl⟩ := hd2.shape
  obtain ⟨as2, cs2, rfl⟩ := hs2.shape
  have HA1 := Lib.hid ha1
  clear ha1
  have HA2 := Lib.hid ha2
  clear ha2
  have HD1 := Lib.hid hd1
  clear hd1
  have HD2 := Lib.hid hd2
  clear hd2
  have HS1 := Lib.hid hs1
  clear hs1
  have HS2 := Lib.hid hs2
  clear hs2
  have HIH := Lib.hid (ih m rfl)
  clear ih
  have HDD1 := HD1
  have HDD2 := HD2
  clear HD1 HD2
  have HD1 := Lib.hid hD1
  have HD2 := Lib.hid hD2
  clear hD1 hD2
  have HB := Lib.hid (((Below.refl w.heap.size w).alloc (Nat.le_refl _) (.cells #[.int .i64 x.k, .string ⟨x.al.toArray⟩, .string ⟨x.nm.toArray⟩, .string ⟨x.on_.toArray⟩, .slice aa1 x.args.length ca1, .slice ad1 x.dirs.length cd1, .slice as1 x.sels.length cs1] 49)).alloc (by simp) (.cells #[.int .i64 y.k, .string ⟨y.al.toArray⟩, .string ⟨y.nm.toArray⟩, .string ⟨y.on_.toArray⟩, .slice aa2 y.args.length ca2, .slice ad2 y.dirs.length cd2, .slice as2 y.sels.length cs2] 49))
  have HX := Lib.hid (show ((w.alloc (.cells #[.int .i64 x.k, .string ⟨x.al.toArray⟩, .string ⟨x.nm.toArray⟩, .string ⟨x.on_.toArray⟩, .slice aa1 x.args.length ca1, .slice ad1 x.dirs.length cd1, .slice as1 x.sels.length cs1] 49)).alloc (.cells #[.int .i64 y.k, .string ⟨y.al.toArray⟩, .string ⟨y.nm.toArray⟩, .string ⟨y.on_.toArray⟩, .slice aa2 y.args.length ca2, .slice ad2 y.dirs.length cd2, .slice as2 y.sels.length cs2] 49)).heap[w.heap.size]? = some (.cells #[.int .i64 x.k, .string ⟨x.al.toArray⟩, .string ⟨x.nm.toArray⟩, .string ⟨x.on_.toArray⟩, .slice aa1 x.args.length ca1, .slice ad1 x.dirs.length cd1, .slice as1 x.sels.length cs1] 49) from (Below.heap_alloc _ _ _ (by simp)).trans (heap_alloc_new _ _))
  have HY := Lib.hid (show ((w.alloc (.cells #[.int .i64 x.k, .string ⟨x.al.toArray⟩, .string ⟨x.nm.toArray⟩, .string ⟨x.on_.toArray⟩, .slice aa1 x.args.length ca1, .slice ad1 x.dirs.length cd1, .slice as1 x.sels.length cs1] 49)).alloc (.cells #[.int .i64 y.k, .string ⟨y.al.toArray⟩, .string ⟨y.nm.toArray⟩, .string ⟨y.on_.toArray⟩, .slice aa2 y.args.length ca2, .slice ad2 y.dirs.length cd2, .slice as2 y.sels.length cs2] 49)).heap[w.heap.size + 1]? = some (.cells #[.int .i64 y.k, .string ⟨y.al.toArray⟩, .string ⟨y.nm.toArray⟩, .string ⟨y.on_.toArray⟩, .slice aa2 y.args.length ca2, .slice ad2 y.dirs.length cd2, .slice as2 y.sels.length cs2] 49) from by have := heap_alloc_new (w.alloc (.cells #[.int .i64 x.k, .string ⟨x.al.toArray⟩, .string ⟨x.nm.toArray⟩, .string ⟨x.on_.toArray⟩, .slice aa1 x.args.length ca1, .slice ad1 x.dirs.length cd1, .slice as1 x.sels.length cs1] 49)) (.cells #[.int .i64 y.k, .string ⟨y.al.toArray⟩, .string ⟨y.nm.toArray⟩, .string ⟨y.on_.toArray⟩, .slice aa2 y.args.length ca2, .slice ad2 y.dirs.length cd2, .slice as2 y.sels.length cs2] 49); rwa [show (w.alloc (.cells #[.int .i64 x.k, .string ⟨x.al.toArray⟩, .string ⟨x.nm.toArray⟩, .string ⟨x.on_.toArray⟩, .slice aa1 x.args.length ca1, .slice ad1 x.dirs.length cd1, .slice as1 x.sels.length cs1] 49)).heap.size = w.heap.size + 1 by simp] at this)
  have HQ := Lib.hid (@sel_eq x y)
  have HSZ := Lib.hid (show w.heap.size + 2 ≤ ((w.alloc (.cells #[.int .i64 x.k, .string ⟨x.al.toArray⟩, .string ⟨x.nm.toArray⟩, .string ⟨x.on_.toArray⟩, .slice aa1 x.args.length ca1, .slice ad1 x.dirs.length cd1, .slice as1 x.sels.length cs1] 49)).alloc (.cells #[.int .i64 y.k, .string ⟨y.al.toArray⟩, .string ⟨y.nm.toArray⟩, .string ⟨y.on_.toArray⟩, .slice aa2 y.args.length ca2, .slice ad2 y.dirs.length cd2, .slice as2 y.sels.length cs2] 49)).heap.size by simp)
  by_cases h0 : x.k = y.k
  rotate_left
  · have e0 : (x.k == y.k) = false := by rw [beq_eq_false_iff_ne]; exact h0
    have HE := Lib.hid (show ¬ (x = y) from fun h => h0 (HQ.out.1 h).1)
    clear HX HY HSZ HQ HA1 HA2 HDD1 HDD2 HS1 HS2 HD1 HD2 HIH
    clear h0
    show Calls Tryz.prog 118 #[.agg #[.int .i64 x.k, .string ⟨x.al.toArray⟩, .string ⟨x.nm.toArray⟩, .string ⟨x.on_.toArray⟩, .slice aa1 x.args.length ca1, .slice ad1 x.dirs.length cd1, .slice as1 x.sels.length cs1], .agg #[.int .i64 y.k, .string ⟨y.al.toArray⟩, .string ⟨y.nm.toArray⟩, .string ⟨y.on_.toArray⟩, .slice aa2 y.args.length ca2, .slice ad2 y.dirs.length cd2, .slice as2 y.sels.length cs2]] w _
    go_enter Tryz.func118, Tryz.ntmps118
    go_wp2_with fail
    go_ret
    exact ⟨false, rfl, ⟨(fun h => by cases h), fun h => absurd h HE.out⟩, HB.out⟩
  have e0 : (x.k == y.k) = true := by rw [h0]; exact beq_self_eq_true _
  by_cases h1 : x.al = y.al
  rotate_left
  · have e1 : (x.al == y.al) = false := by rw [beq_eq_false_iff_ne]; exact h1
    have HE := Lib.hid (show ¬ (x = y) from fun h => h1 (HQ.out.1 h).2.1)
    clear HX HY HSZ HQ HA1 HA2 HDD1 HDD2 HS1 HS2 HD1 HD2 HIH
    clear h0
    clear h1
    show Calls Tryz.prog 118 #[.agg #[.int .i64 x.k, .string ⟨x.al.toArray⟩, .string ⟨x.nm.toArray⟩, .string ⟨x.on_.toArray⟩, .slice aa1 x.args.length ca1, .slice ad1 x.dirs.length cd1, .slice as1 x.sels.length cs1], .agg #[.int .i64 y.k, .string ⟨y.al.toArray⟩, .string ⟨y.nm.toArray⟩, .string ⟨y.on_.toArray⟩, .slice aa2 y.args.length ca2, .slice ad2 y.dirs.length cd2, .slice as2 y.sels.length cs2]] w _
    go_enter Tryz.func118, Tryz.ntmps118
    go_wp2_with fail
    go_ret
    exact ⟨false, rfl, ⟨(fun h => by cases h), fun h => absurd h HE.out⟩, HB.out⟩
  have e1 : (x.al == y.al) = true := by rw [h1]; exact beq_self_eq_true _
  by_cases h2 : x.nm = y.nm
  rotate_left
  · have e2 : (x.nm == y.nm) = false := by rw [beq_eq_false_iff_ne]; exact h2
    have HE := Lib.hid (show ¬ (x = y) from fun h => h2 (HQ.out.1 h).2.2.1)
    clear HX HY HSZ HQ HA1 HA2 HDD1 HDD2 HS1 HS2 HD1 HD2 HIH
    clear h0
    clear h1
    clear h2
    show Calls Tryz.prog 118 #[.agg #[.int .i64 x.k, .string ⟨x.al.toArray⟩, .string ⟨x.nm.toArray⟩, .string ⟨x.on_.toArray⟩, .slice aa1 x.args.length ca1, .slice ad1 x.dirs.length cd1, .slice as1 x.sels.length cs1], .agg #[.int .i64 y.k, .string ⟨y.al.toArray⟩, .string ⟨y.nm.toArray⟩, .string ⟨y.on_.toArray⟩, .slice aa2 y.args.length ca2, .slice ad2 y.dirs.length cd2, .slice as2 y.sels.length cs2]] w _
    go_enter Tryz.func118, Tryz.ntmps118
    go_wp2_with fail
    go_ret
    exact ⟨false, rfl, ⟨(fun h => by cases h), fun h => absurd h HE.out⟩, HB.out⟩
  have e2 : (x.nm == y.nm) = true := by rw [h2]; exact beq_self_eq_true _
  by_cases h3 : x.on_ = y.on_
  rotate_left
  · have e3 : (x.on_ == y.on_) = false := by rw [beq_eq_false_iff_ne]; exact h3
    have HE := Lib.hid (show ¬ (x = y) from fun h => h3 (HQ.out.1 h).2.2.2.1)
    clear HX HY HSZ HQ HA1 HA2 HDD1 HDD2 HS1 HS2 HD1 HD2 HIH
    clear h0
    clear h1
    clear h2
    clear h3
    show Calls Tryz.prog 118 #[.agg #[.int .i64 x.k, .string ⟨x.al.toArray⟩, .string ⟨x.nm.toArray⟩, .string ⟨x.on_.toArray⟩, .slice aa1 x.args.length ca1, .slice ad1 x.dirs.length cd1, .slice as1 x.sels.length cs1], .agg #[.int .i64 y.k, .string ⟨y.al.toArray⟩, .string ⟨y.nm.toArray⟩, .string ⟨y.on_.toArray⟩, .slice aa2 y.args.length ca2, .slice ad2 y.dirs.length cd2, .slice as2 y.sels.length cs2]] w _
    go_enter Tryz.func118, Tryz.ntmps118
    go_wp2_with fail
    go_ret
    exact ⟨false, rfl, ⟨(fun h => by cases h), fun h => absurd h HE.out⟩, HB.out⟩
  have e3 : (x.on_ == y.on_) = true := by rw [h3]; exact beq_self_eq_true _
  have H0 := Lib.hid h0
  clear h0
  have H1 := Lib.hid h1
  clear h1
  have H2 := Lib.hid h2
  clear h2
  have H3 := Lib.hid h3
  clear h3
  have HC := eqfArg_any ((w.alloc (.cells #[.int .i64 x.k, .string ⟨x.al.toArray⟩, .string ⟨x.nm.toArray⟩, .string ⟨x.on_.toArray⟩, .slice aa1 x.args.length ca1, .slice ad1 x.dirs.length cd1, .slice as1 x.sels.length cs1] 49)).alloc (.cells #[.int .i64 y.k, .string ⟨y.al.toArray⟩, .string ⟨y.nm.toArray⟩, .string ⟨y.on_.toArray⟩, .slice aa2 y.args.length ca2, .slice ad2 y.dirs.length cd2, .slice as2 y.sels.length cs2] 49)) (RowD.step argOk (fun _ h => h) (fun b o hb => World.cell?_of_block (a := ⟨b, o, none⟩) (HB.out.block b (HD1.out b hb))) HA1.out) (RowD.step argOk (fun _ h => h) (fun b o hb => World.cell?_of_block (a := ⟨b, o, none⟩) (HB.out.block b (HD2.out b hb))) HA2.out) (fun b h => Nat.lt_of_lt_of_le (HD1.out b h) HB.out.size) (fun b h => Nat.lt_of_lt_of_le (HD2.out b h) HB.out.size) (fun x _ y _ cs ds W hb hE1 hE2 => sameArg_any W (fun b h => Nat.lt_of_lt_of_le (HD1.out b h) (Nat.le_trans HB.out.size hb.size)) (fun b h => Nat.lt_of_lt_of_le (HD2.out b h) (Nat.le_trans HB.out.size hb.size)) hE1 hE2)
  show Calls Tryz.prog 118 #[.agg #[.int .i64 x.k, .string ⟨x.al.toArray⟩, .string ⟨x.nm.toArray⟩, .string ⟨x.on_.toArray⟩, .slice aa1 x.args.length ca1, .slice ad1 x.dirs.length cd1, .slice as1 x.sels.length cs1], .agg #[.int .i64 y.k, .string ⟨y.al.toArray⟩, .string ⟨y.nm.toArray⟩, .string ⟨y.on_.toArray⟩, .slice aa2 y.args.length ca2, .slice ad2 y.dirs.length cd2, .slice as2 y.sels.length cs2]] w _
  go_enter Tryz.func118, Tryz.ntmps118
  go_wp2_with fail
  refine HC.mono ?_
  rintro e w1 ⟨r, rfl, hr, hb⟩
  have HB1 := Lib.hid (HB.out.trans (hb.mono HB.out.size))
  have HX1 := Lib.hid ((hb.block _ (by have := HSZ.out; omega)).trans HX.out)
  have HY1 := Lib.hid ((hb.block _ (by have := HSZ.out; omega)).trans HY.out)
  have HL1 := Lib.hid (show w.heap.size + 2 ≤ w1.heap.size from Nat.le_trans HSZ.out hb.size)
  clear hb HC
  cases r with
  | false =>
    have HE := Lib.hid (show ¬ (x = y) from fun h => by have := hr.2 ((HQ.out.1 h).2.2.2.2.1); cases this)
    clear hr
    go_wp2_with fail
    go_ret
    exact ⟨false, rfl, ⟨(fun h => by cases h), fun h => absurd h HE.out⟩, HB1.out⟩
  | true =>
    have HP1 := Lib.hid (hr.1 rfl)
    clear hr
    obtain ⟨p0, p1, p2, p3, p4, p5, p6, pf, pl⟩ := bk7 HX1.out
    obtain ⟨q0, q1, q2, q3, q4, q5, q6, qf, ql⟩ := bk7 HY1.out
    have HC := eqfDir_any w1 (RowD.step dirOk (fun _ h => h) (fun b o hb => World.cell?_of_block (a := ⟨b, o, none⟩) (HB1.out.block b (HD1.out b hb))) HDD1.out) (RowD.step dirOk (fun _ h => h) (fun b o hb => World.cell?_of_block (a := ⟨b, o, none⟩) (HB1.out.block b (HD2.out b hb))) HDD2.out) (fun b h => Nat.lt_of_lt_of_le (HD1.out b h) HB1.out.size) (fun b h => Nat.lt_of_lt_of_le (HD2.out b h) HB1.out.size) (fun x _ y _ cs ds W hb hE1 hE2 => sameDir_any W (fun b h => Nat.lt_of_lt_of_le (HD1.out b h) (Nat.le_trans HB1.out.size hb.size)) (fun b h => Nat.lt_of_lt_of_le (HD2.out b h) (Nat.le_trans HB1.out.size hb.size)) hE1 hE2)
    go_wp2_with fail
    refine HC.mono ?_
    rintro e w2 ⟨r, rfl, hr, hb⟩
    have HB2 := Lib.hid (HB1.out.trans (hb.mono HB1.out.size))
    have HX2 := Lib.hid ((hb.block _ (by have := HSZ.out; have := HL1.out; omega)).trans HX1.out)
    have HY2 := Lib.hid ((hb.block _ (by have := HSZ.out; have := HL1.out; omega)).trans HY1.out)
    have HL2 := Lib.hid (show w.heap.size + 2 ≤ w2.heap.size from Nat.le_trans HL1.out hb.size)
    clear hb HC
    clear p0 q0 p1 q1 p2 q2 p3 q3 p4 q4 p5 q5 p6 q6 pf qf pl ql
    cases r with
    | false =>
      have HE := Lib.hid (show ¬ (x = y) from fun h => by have := hr.2 ((HQ.out.1 h).2.2.2.2.2.1); cases this)
      clear hr
      go_wp2_with fail
      go_ret
      exact ⟨false, rfl, ⟨(fun h => by cases h), fun h => absurd h HE.out⟩, HB2.out⟩
    | true =>
      have HP2 := Lib.hid (hr.1 rfl)
      clear hr
      obtain ⟨p0, p1, p2, p3, p4, p5, p6, pf, pl⟩ := bk7 HX2.out
      obtain ⟨q0, q1, q2, q3, q4, q5, q6, qf, ql⟩ := bk7 HY2.out
      have HC := eqfSel_any (n1 := n1) (n2 := m) w2 (RowD.step (selOk n1) (fun _ h => h) (fun b o hb => World.cell?_of_block (a := ⟨b, o, none⟩) (HB2.out.block b (HD1.out b hb))) HS1.out) (RowD.step (selOk m) (fun _ h => h) (fun b o hb => World.cell?_of_block (a := ⟨b, o, none⟩) (HB2.out.block b (HD2.out b hb))) HS2.out) (fun b h => Nat.lt_of_lt_of_le (HD1.out b h) HB2.out.size) (fun b h => Nat.lt_of_lt_of_le (HD2.out b h) HB2.out.size) (fun x _ y _ cs ds W hb hE1 hE2 => HIH.out n1 x y cs ds W D1 D2 (fun b h => Nat.lt_of_lt_of_le (HD1.out b h) (Nat.le_trans HB2.out.size hb.size)) (fun b h => Nat.lt_of_lt_of_le (HD2.out b h) (Nat.le_trans HB2.out.size hb.size)) hE1 hE2)
      go_wp2_with fail
      refine HC.mono ?_
      rintro e w3 ⟨r, rfl, hr, hb⟩
      have HB3 := Lib.hid (HB2.out.trans (hb.mono HB2.out.size))
      have HX3 := Lib.hid ((hb.block _ (by have := HSZ.out; have := HL2.out; omega)).trans HX2.out)
      have HY3 := Lib.hid ((hb.block _ (by have := HSZ.out; have := HL2.out; omega)).trans HY2.out)
      have HL3 := Lib.hid (show w.heap.size + 2 ≤ w3.heap.size from Nat.le_trans HL2.out hb.size)
      clear hb HC
      clear p0 q0 p1 q1 p2 q2 p3 q3 p4 q4 p5 q5 p6 q6 pf qf pl ql
      cases r with
      | false =>
        have HE := Lib.hid (show ¬ (x = y) from fun h => by have := hr.2 ((HQ.out.1 h).2.2.2.2.2.2); cases this)
        clear hr
        go_wp2_with fail
        go_ret
        exact ⟨false, rfl, ⟨(fun h => by cases h), fun h => absurd h HE.out⟩, HB3.out⟩
      | true =>
        have HP3 := Lib.hid (hr.1 rfl)
        clear hr
        obtain ⟨p0, p1, p2, p3, p4, p5, p6, pf, pl⟩ := bk7 HX3.out
        obtain ⟨q0, q1, q2, q3, q4, q5, q6, qf, ql⟩ := bk7 HY3.out
        go_wp2_with fail
        go_ret
        exact ⟨true, rfl, ⟨fun _ => HQ.out.2 ⟨H0.out, H1.out, H2.out, H3.out, HP1.out, HP2.out, HP3.out⟩, fun _ => rfl⟩, HB3.out⟩

theorem sameSel_all : ∀ m, SameSelAt m
  | 0 => fun n1 x y cs ds w D1 D2 _ _ _ h => h.elim
  | m + 1 => sameSel_step (m + 1) fun m' e => by injection e with e; subst e; exact sameSel_all m

set_option maxHeartbeats 3000000 in
set_option maxRecDepth 100000 in
theorem sameOp_any {D1 D2 : Nat → Prop} {x y : OpT} {cs ds : List Value} (w : World) (hD1 : ∀ b, D1 b → b < w.heap.size) (hD2 : ∀ b, D2 b → b < w.heap.size) (hE1 : OpE w D1 x cs) (hE2 : OpE w D2 y ds) :
    Calls Tryz.prog 74 #[.agg cs.toArray, .agg ds.toArray] w (EqAns (x = y) w) := by
  obtain ⟨hz1, vv, vd, vs, rfl, ha1, hd1, hs1⟩ := hE1
  obtain ⟨aa1, ca1, rfl⟩ := ha1.shape
  obtain ⟨ad1, cd1, rfl⟩ := hd1.shape
  obtain ⟨as1, cs1, rfl⟩ := hs1.shape
  obtain ⟨hz2, vv, vd, vs, rfl, ha2, hd2, hs2⟩ := hE2
  obtain ⟨aa2, ca2, rfl⟩ := ha2.shape
  obtain ⟨ad2, cd2, rfl⟩ := hd2.shape
  obtain ⟨as2, cs2, rfl⟩ := hs2.shape
  obtain ⟨n1, hS1⟩ := hs1
  obtain ⟨n2, hS2⟩ := hs2
  have HS1 := Lib.hid hS1
  have HS2 := Lib.hid hS2
  clear hS1 hS2
  have HA1 := Lib.hid ha1
  have HA2 := Lib.hid ha2
  have HDD1 := Lib.hid hd1
  have HDD2 := Lib.hid hd2
  clear ha1 ha2 hd1 hd2
  have HD1 := Lib.hid hD1
  have HD2 := Lib.hid hD2
  clear hD1 hD2
  have HB := Lib.hid (((Below.refl w.heap.size w).alloc (Nat.le_refl _) (.cells #[.bool x.mut_, .string ⟨x.nm.toArray⟩, .slice aa1 x.vars.length ca1, .slice ad1 x.dirs.length cd1, .slice as1 x.sels.length cs1] 45)).alloc (by simp) (.cells #[.bool y.mut_, .string ⟨y.nm.toArray⟩, .slice aa2 y.vars.length ca2, .slice ad2 y.dirs.length cd2, .slice as2 y.sels.length cs2] 45))
  have HX := Lib.hid (show ((w.alloc (.cells #[.bool x.mut_, .string ⟨x.nm.toArray⟩, .slice aa1 x.vars.length ca1, .slice ad1 x.dirs.length cd1, .slice as1 x.sels.length cs1] 45)).alloc (.cells #[.bool y.mut_, .string ⟨y.nm.toArray⟩, .slice aa2 y.vars.length ca2, .slice ad2 y.dirs.length cd2, .slice as2 y.sels.length cs2] 45)).heap[w.heap.size]? = some (.cells #[.bool x.mut_, .string ⟨x.nm.toArray⟩, .slice aa1 x.vars.length ca1, .slice ad1 x.dirs.length cd1, .slice as1 x.sels.length cs1] 45) from (Below.heap_alloc _ _ _ (by simp)).trans (heap_alloc_new _ _))
  have HY := Lib.hid (show ((w.alloc (.cells #[.bool x.mut_, .string ⟨x.nm.toArray⟩, .slice aa1 x.vars.length ca1, .slice ad1 x.dirs.length cd1, .slice as1 x.sels.length cs1] 45)).alloc (.cells #[.bool y.mut_, .string ⟨y.nm.toArray⟩, .slice aa2 y.vars.length ca2, .slice ad2 y.dirs.length cd2, .slice as2 y.sels.length cs2] 45)).heap[w.heap.size + 1]? = some (.cells #[.bool y.mut_, .string ⟨y.nm.toArray⟩, .slice aa2 y.vars.length ca2, .slice ad2 y.dirs.length cd2, .slice as2 y.sels.length cs2] 45) from by have := heap_alloc_new (w.alloc (.cells #[.bool x.mut_, .string ⟨x.nm.toArray⟩, .slice aa1 x.vars.length ca1, .slice ad1 x.dirs.length cd1, .slice as1 x.sels.length cs1] 45)) (.cells #[.bool y.mut_, .string ⟨y.nm.toArray⟩, .slice aa2 y.vars.length ca2, .slice ad2 y.dirs.length cd2, .slice as2 y.sels.length cs2] 45); rwa [show (w.alloc (.cells #[.bool x.mut_, .string ⟨x.nm.toArray⟩, .slice aa1 x.vars.length ca1, .slice ad1 x.dirs.length cd1, .slice as1 x.sels.length cs1] 45)).heap.size = w.heap.size + 1 by simp] at this)
  have HQ := Lib.hid (@op_eq x y)
  have HSZ := Lib.hid (show w.heap.size + 2 ≤ ((w.alloc (.cells #[.bool x.mut_, .string ⟨x.nm.toArray⟩, .slice aa1 x.vars.length ca1, .slice ad1 x.dirs.length cd1, .slice as1 x.sels.length cs1] 45)).alloc (.cells #[.bool y.mut_, .string ⟨y.nm.toArray⟩, .slice aa2 y.vars.length ca2, .slice ad2 y.dirs.length cd2, .slice as2 y.sels.length cs2] 45)).heap.size by simp)
  by_cases h0 : x.mut_ = y.mut_
  rotate_left
  · have e0 : (x.mut_ == y.mut_) = false := by rw [beq_eq_false_iff_ne]; exact h0
    have HE := Lib.hid (show ¬ (x = y) from fun h => h0 (HQ.out.1 h).1)
    clear HX HY HSZ HQ HA1 HA2 HDD1 HDD2 HS1 HS2 HD1 HD2
    clear h0
    show Calls Tryz.prog 74 #[.agg #[.bool x.mut_, .string ⟨x.nm.toArray⟩, .slice aa1 x.vars.length ca1, .slice ad1 x.dirs.length cd1, .slice as1 x.sels.length cs1], .agg #[.bool y.mut_, .string ⟨y.nm.toArray⟩, .slice aa2 y.vars.length ca2, .slice ad2 y.dirs.length cd2, .slice as2 y.sels.length cs2]] w _
    go_enter Tryz.func74, Tryz.ntmps74
    go_wp2_with fail
    go_ret
    exact ⟨false, rfl, ⟨(fun h => by cases h), fun h => absurd h HE.out⟩, HB.out⟩
  have e0 : (x.mut_ == y.mut_) = true := by rw [h0]; exact beq_self_eq_true _
  by_cases h1 : x.nm = y.nm
  rotate_left
  · have e1 : (x.nm == y.nm) = false := by rw [beq_eq_false_iff_ne]; exact h1
    have HE := Lib.hid (show ¬ (x = y) from fun h => h1 (HQ.out.1 h).2.1)
    clear HX HY HSZ HQ HA1 HA2 HDD1 HDD2 HS1 HS2 HD1 HD2
    clear h0
    clear h1
    show Calls Tryz.prog 74 #[.agg #[.bool x.mut_, .string ⟨x.nm.toArray⟩, .slice aa1 x.vars.length ca1, .slice ad1 x.dirs.length cd1, .slice as1 x.sels.length cs1], .agg #[.bool y.mut_, .string ⟨y.nm.toArray⟩, .slice aa2 y.vars.length ca2, .slice ad2 y.dirs.length cd2, .slice as2 y.sels.length cs2]] w _
    go_enter Tryz.func74, Tryz.ntmps74
    go_wp2_with fail
    go_ret
    exact ⟨false, rfl, ⟨(fun h => by cases h), fun h => absurd h HE.out⟩, HB.out⟩
  have e1 : (x.nm == y.nm) = true := by rw [h1]; exact beq_self_eq_true _
  have H0 := Lib.hid h0
  clear h0
  have H1 := Lib.hid h1
  clear h1
  have HC := eqfVar_any ((w.alloc (.cells #[.bool x.mut_, .string ⟨x.nm.toArray⟩, .slice aa1 x.vars.length ca1, .slice ad1 x.dirs.length cd1, .slice as1 x.sels.length cs1] 45)).alloc (.cells #[.bool y.mut_, .string ⟨y.nm.toArray⟩, .slice aa2 y.vars.length ca2, .slice ad2 y.dirs.length cd2, .slice as2 y.sels.length cs2] 45)) (RowD.step varOk (fun _ h => h) (fun b o hb => World.cell?_of_block (a := ⟨b, o, none⟩) (HB.out.block b (HD1.out b hb))) HA1.out) (RowD.step varOk (fun _ h => h) (fun b o hb => World.cell?_of_block (a := ⟨b, o, none⟩) (HB.out.block b (HD2.out b hb))) HA2.out) (fun b h => Nat.lt_of_lt_of_le (HD1.out b h) HB.out.size) (fun b h => Nat.lt_of_lt_of_le (HD2.out b h) HB.out.size) (fun x _ y _ cs ds W hb hE1 hE2 => sameVar_any W (fun b h => Nat.lt_of_lt_of_le (HD1.out b h) (Nat.le_trans HB.out.size hb.size)) (fun b h => Nat.lt_of_lt_of_le (HD2.out b h) (Nat.le_trans HB.out.size hb.size)) hE1 hE2)
  show Calls Tryz.prog 74 #[.agg #[.bool x.mut_, .string ⟨x.nm.toArray⟩, .slice aa1 x.vars.length ca1, .slice ad1 x.dirs.length cd1, .slice as1 x.sels.length cs1], .agg #[.bool y.mut_, .string ⟨y.nm.toArray⟩, .slice aa2 y.vars.length ca2, .slice ad2 y.dirs.length cd2, .slice as2 y.sels.length cs2]] w _
  go_enter Tryz.func74, Tryz.ntmps74
  go_wp2_with fail
  refine HC.mono ?_
  rintro e w1 ⟨r, rfl, hr, hb⟩
  have HB1 := Lib.hid (HB.out.trans (hb.mono HB.out.size))
  have HX1 := Lib.hid ((hb.block _ (by have := HSZ.out; omega)).trans HX.out)
  have HY1 := Lib.hid ((hb.block _ (by have := HSZ.out; omega)).trans HY.out)
  have HL1 := Lib.hid (show w.heap.size + 2 ≤ w1.heap.size from Nat.le_trans HSZ.out hb.size)
  clear hb HC
  cases r with
  | false =>
    have HE := Lib.hid (show ¬ (x = y) from fun h => by have := hr.2 ((HQ.out.1 h).2.2.1); cases this)
    clear hr
    go_wp2_with fail
    go_ret
    exact ⟨false, rfl, ⟨(fun h => by cases h), fun h => absurd h HE.out⟩, HB1.out⟩
  | true =>
    have HP1 := Lib.hid (hr.1 rfl)
    clear hr
    obtain ⟨p0, p1, p2, p3, p4, pf, pl⟩ := bk5 HX1.out
    obtain ⟨q0, q1, q2, q3, q4, qf, ql⟩ := bk5 HY1.out
    have HC := eqfDir_any w1 (RowD.step dirOk (fun _ h => h) (fun b o hb => World.cell?_of_block (a := ⟨b, o, none⟩) (HB1.out.block b (HD1.out b hb))) HDD1.out) (RowD.step dirOk (fun _ h => h) (fun b o hb => World.cell?_of_block (a := ⟨b, o, none⟩) (HB1.out.block b (HD2.out b hb))) HDD2.out) (fun b h => Nat.lt_of_lt_of_le (HD1.out b h) HB1.out.size) (fun b h => Nat.lt_of_lt_of_le (HD2.out b h) HB1.out.size) (fun x _ y _ cs ds W hb hE1 hE2 => sameDir_any W (fun b h => Nat.lt_of_lt_of_le (HD1.out b h) (Nat.le_trans HB1.out.size hb.size)) (fun b h => Nat.lt_of_lt_of_le (HD2.out b h) (Nat.le_trans HB1.out.size hb.size)) hE1 hE2)
    go_wp2_with fail
    refine HC.mono ?_
    rintro e w2 ⟨r, rfl, hr, hb⟩
    have HB2 := Lib.hid (HB1.out.trans (hb.mono HB1.out.size))
    have HX2 := Lib.hid ((hb.block _ (by have := HSZ.out; have := HL1.out; omega)).trans HX1.out)
    have HY2 := Lib.hid ((hb.block _ (by have := HSZ.out; have := HL1.out; omega)).trans HY1.out)
    have HL2 := Lib.hid (show w.heap.size + 2 ≤ w2.heap.size from Nat.le_trans HL1.out hb.size)
    clear hb HC
    clear p0 q0 p1 q1 p2 q2 p3 q3 p4 q4 pf qf pl ql
    cases r with
    | false =>
      have HE := Lib.hid (show ¬ (x = y) from fun h => by have := hr.2 ((HQ.out.1 h).2.2.2.1); cases this)
      clear hr
      go_wp2_with fail
      go_ret
      exact ⟨false, rfl, ⟨(fun h => by cases h), fun h => absurd h HE.out⟩, HB2.out⟩
    | true =>
      have HP2 := Lib.hid (hr.1 rfl)
      clear hr
      obtain ⟨p0, p1, p2, p3, p4, pf, pl⟩ := bk5 HX2.out
      obtain ⟨q0, q1, q2, q3, q4, qf, ql⟩ := bk5 HY2.out
      have HC := eqfSel_any (n1 := n1) (n2 := n2) w2 (RowD.step (selOk n1) (fun _ h => h) (fun b o hb => World.cell?_of_block (a := ⟨b, o, none⟩) (HB2.out.block b (HD1.out b hb))) HS1.out) (RowD.step (selOk n2) (fun _ h => h) (fun b o hb => World.cell?_of_block (a := ⟨b, o, none⟩) (HB2.out.block b (HD2.out b hb))) HS2.out) (fun b h => Nat.lt_of_lt_of_le (HD1.out b h) HB2.out.size) (fun b h => Nat.lt_of_lt_of_le (HD2.out b h) HB2.out.size) (fun x _ y _ cs ds W hb hE1 hE2 => sameSel_all n2 n1 x y cs ds W D1 D2 (fun b h => Nat.lt_of_lt_of_le (HD1.out b h) (Nat.le_trans HB2.out.size hb.size)) (fun b h => Nat.lt_of_lt_of_le (HD2.out b h) (Nat.le_trans HB2.out.size hb.size)) hE1 hE2)
      go_wp2_with fail
      refine HC.mono ?_
      rintro e w3 ⟨r, rfl, hr, hb⟩
      have HB3 := Lib.hid (HB2.out.trans (hb.mono HB2.out.size))
      have HX3 := Lib.hid ((hb.block _ (by have := HSZ.out; have := HL2.out; omega)).trans HX2.out)
      have HY3 := Lib.hid ((hb.block _ (by have := HSZ.out; have := HL2.out; omega)).trans HY2.out)
      have HL3 := Lib.hid (show w.heap.size + 2 ≤ w3.heap.size from Nat.le_trans HL2.out hb.size)
      clear hb HC
      clear p0 q0 p1 q1 p2 q2 p3 q3 p4 q4 pf qf pl ql
      cases r with
      | false =>
        have HE := Lib.hid (show ¬ (x = y) from fun h => by have := hr.2 ((HQ.out.1 h).2.2.2.2); cases this)
        clear hr
        go_wp2_with fail
        go_ret
        exact ⟨false, rfl, ⟨(fun h => by cases h), fun h => absurd h HE.out⟩, HB3.out⟩
      | true =>
        have HP3 := Lib.hid (hr.1 rfl)
        clear hr
        obtain ⟨p0, p1, p2, p3, p4, pf, pl⟩ := bk5 HX3.out
        obtain ⟨q0, q1, q2, q3, q4, qf, ql⟩ := bk5 HY3.out
        go_wp2_with fail
        go_ret
        exact ⟨true, rfl, ⟨fun _ => HQ.out.2 ⟨H0.out, H1.out, HP1.out, HP2.out, HP3.out⟩, fun _ => rfl⟩, HB3.out⟩

set_option maxHeartbeats 3000000 in
set_option maxRecDepth 100000 in
theorem sameFrag_any {D1 D2 : Nat → Prop} {x y : FragT} {cs ds : List Value} (w : World) (hD1 : ∀ b, D1 b → b < w.heap.size) (hD2 : ∀ b, D2 b → b < w.heap.size) (hE1 : FragE w D1 x cs) (hE2 : FragE w D2 y ds) :
    Calls Tryz.prog 76 #[.agg cs.toArray, .agg ds.toArray] w (EqAns (x = y) w) := by
  obtain ⟨hz1, vd, vs, rfl, hd1, hs1⟩ := hE1
  obtain ⟨ad1, cd1, rfl⟩ := hd1.shape
  obtain ⟨as1, cs1, rfl⟩ := hs1.shape
  obtain ⟨hz2, vd, vs, rfl, hd2, hs2⟩ := hE2
  obtain ⟨ad2, cd2, rfl⟩ := hd2.shape
  obtain ⟨as2, cs2, rfl⟩ := hs2.shape
  obtain ⟨n1, hS1⟩ := hs1
  obtain ⟨n2, hS2⟩ := hs2
  have HS1 := Lib.hid hS1
  have HS2 := Lib.hid hS2
  clear hS1 hS2
  have HDD1 := Lib.hid hd1
  have HDD2 := Lib.hid hd2
  clear hd1 hd2
  have HD1 := Lib.hid hD1
  have HD2 := Lib.hid hD2
  clear hD1 hD2
  have HB := Lib.hid (((Below.refl w.heap.size w).alloc (Nat.le_refl _) (.cells #[.string ⟨x.nm.toArray⟩, .string ⟨x.on_.toArray⟩, .slice ad1 x.dirs.length cd1, .slice as1 x.sels.length cs1] 61)).alloc (by simp) (.cells #[.string ⟨y.nm.toArray⟩, .string ⟨y.on_.toArray⟩, .slice ad2 y.dirs.length cd2, .slice as2 y.sels.length cs2] 61))
  have HX := Lib.hid (show ((w.alloc (.cells #[.string ⟨x.nm.toArray⟩, .string ⟨x.on_.toArray⟩, .slice ad1 x.dirs.length cd1, .slice as1 x.sels.length cs1] 61)).alloc (.cells #[.string ⟨y.nm.toArray⟩, .string ⟨y.on_.toArray⟩, .slice ad2 y.dirs.length cd2, .slice as2 y.sels.length cs2] 61)).heap[w.heap.size]? = some (.cells #[.string ⟨x.nm.toArray⟩, .string ⟨x.on_.toArray⟩, .slice ad1 x.dirs.length cd1, .slice as1 x.sels.length cs1] 61) from (Below.heap_alloc _ _ _ (by simp)).trans (heap_alloc_new _ _))
  have HY := Lib.hid (show ((w.alloc (.cells #[.string ⟨x.nm.toArray⟩, .string ⟨x.on_.toArray⟩, .slice ad1 x.dirs.length cd1, .slice as1 x.sels.length cs1] 61)).alloc (.cells #[.string ⟨y.nm.toArray⟩, .string ⟨y.on_.toArray⟩, .slice ad2 y.dirs.length cd2, .slice as2 y.sels.length cs2] 61)).heap[w.heap.size + 1]? = some (.cells #[.string ⟨y.nm.toArray⟩, .string ⟨y.on_.toArray⟩, .slice ad2 y.dirs.length cd2, .slice as2 y.sels.length cs2] 61) from by have := heap_alloc_new (w.alloc (.cells #[.string ⟨x.nm.toArray⟩, .string ⟨x.on_.toArray⟩, .slice ad1 x.dirs.length cd1, .slice as1 x.sels.length cs1] 61)) (.cells #[.string ⟨y.nm.toArray⟩, .string ⟨y.on_.toArray⟩, .slice ad2 y.dirs.length cd2, .slice as2 y.sels.length cs2] 61); rwa [show (w.alloc (.cells #[.string ⟨x.nm.toArray⟩, .string ⟨x.on_.toArray⟩, .slice ad1 x.dirs.length cd1, .slice as1 x.sels.length cs1] 61)).heap.size = w.heap.size + 1 by simp] at this)
  have HQ := Lib.hid (@frag_eq x y)
  have HSZ := Lib.hid (show w.heap.size + 2 ≤ ((w.alloc (.cells #[.string ⟨x.nm.toArray⟩, .string ⟨x.on_.toArray⟩, .slice ad1 x.dirs.length cd1, .slice as1 x.sels.length cs1] 61)).alloc (.cells #[.string ⟨y.nm.toArray⟩, .string ⟨y.on_.toArray⟩, .slice ad2 y.dirs.length cd2, .slice as2 y.sels.length cs2] 61)).heap.size by simp)
  by_cases h0 : x.nm = y.nm
  rotate_left
  · have e0 : (x.nm == y.nm) = false := by rw [beq_eq_false_iff_ne]; exact h0
    have HE := Lib.hid (show ¬ (x = y) from fun h => h0 (HQ.out.1 h).1)
    clear HX HY HSZ HQ HDD1 HDD2 HS1 HS2 HD1 HD2
    clear h0
    show Calls Tryz.prog 76 #[.agg #[.string ⟨x.nm.toArray⟩, .string ⟨x.on_.toArray⟩, .slice ad1 x.dirs.length cd1, .slice as1 x.sels.length cs1], .agg #[.string ⟨y.nm.toArray⟩, .string ⟨y.on_.toArray⟩, .slice ad2 y.dirs.length cd2, .slice as2 y.sels.length cs2]] w _
    go_enter Tryz.func76, Tryz.ntmps76
    go_wp2_with fail
    go_ret
    exact ⟨false, rfl, ⟨(fun h => by cases h), fun h => absurd h HE.out⟩, HB.out⟩
  have e0 : (x.nm == y.nm) = true := by rw [h0]; exact beq_self_eq_true _
  by_cases h1 : x.on_ = y.on_
  rotate_left
  · have e1 : (x.on_ == y.on_) = false := by rw [beq_eq_false_iff_ne]; exact h1
    have HE := Lib.hid (show ¬ (x = y) from fun h => h1 (HQ.out.1 h).2.1)
    clear HX HY HSZ HQ HDD1 HDD2 HS1 HS2 HD1 HD2
    clear h0
    clear h1
    show Calls Tryz.prog 76 #[.agg #[.string ⟨x.nm.toArray⟩, .string ⟨x.on_.toArray⟩, .slice ad1 x.dirs.length cd1, .slice as1 x.sels.length cs1], .agg #[.string ⟨y.nm.toArray⟩, .string ⟨y.on_.toArray⟩, .slice ad2 y.dirs.length cd2, .slice as2 y.sels.length cs2]] w _
    go_enter Tryz.func76, Tryz.ntmps76
    go_wp2_with fail
    go_ret
    exact ⟨false, rfl, ⟨(fun h => by cases h), fun h => absurd h HE.out⟩, HB.out⟩
  have e1 : (x.on_ == y.on_) = true := by rw [h1]; exact beq_self_eq_true _
  have H0 := Lib.hid h0
  clear h0
  have H1 := Lib.hid h1
  clear h1
  have HC := eqfDir_any ((w.alloc (.cells #[.string ⟨x.nm.toArray⟩, .string ⟨x.on_.toArray⟩, .slice ad1 x.dirs.length cd1, .slice as1 x.sels.length cs1] 61)).alloc (.cells #[.string ⟨y.nm.toArray⟩, .string ⟨y.on_.toArray⟩, .slice ad2 y.dirs.length cd2, .slice as2 y.sels.length cs2] 61)) (RowD.step dirOk (fun _ h => h) (fun b o hb => World.cell?_of_block (a := ⟨b, o, none⟩) (HB.out.block b (HD1.out b hb))) HDD1.out) (RowD.step dirOk (fun _ h => h) (fun b o hb => World.cell?_of_block (a := ⟨b, o, none⟩) (HB.out.block b (HD2.out b hb))) HDD2.out) (fun b h => Nat.lt_of_lt_of_le (HD1.out b h) HB.out.size) (fun b h => Nat.lt_of_lt_of_le (HD2.out b h) HB.out.size) (fun x _ y _ cs ds W hb hE1 hE2 => sameDir_any W (fun b h => Nat.lt_of_lt_of_le (HD1.out b h) (Nat.le_trans HB.out.size hb.size)) (fun b h => Nat.lt_of_lt_of_le (HD2.out b h) (Nat.le_trans HB.out.size hb.size)) hE1 hE2)
  show Calls Tryz.prog 76 #[.agg #[.string ⟨x.nm.toArray⟩, .string ⟨x.on_.toArray⟩, .slice ad1 x.dirs.length cd1, .slice as1 x.sels.length cs1], .agg #[.string ⟨y.nm.toArray⟩, .string ⟨y.on_.toArray⟩, .slice ad2 y.dirs.length cd2, .slice as2 y.sels.length cs2]] w _
  go_enter Tryz.func76, Tryz.ntmps76
  go_wp2_with fail
  refine HC.mono ?_
  rintro e w1 ⟨r, rfl, hr, hb⟩
  have HB1 := Lib.hid (HB.out.trans (hb.mono HB.out.size))
  have HX1 := Lib.hid ((hb.block _ (by have := HSZ.out; omega)).trans HX.out)
  have HY1 := Lib.hid ((hb.block _ (by have := HSZ.out; omega)).trans HY.out)
  have HL1 := Lib.hid (show w.heap.size + 2 ≤ w1.heap.size from Nat.le_trans HSZ.out hb.size)
  clear hb HC
  cases r with
  | false =>
    have HE := Lib.hid (show ¬ (x = y) from fun h => by have := hr.2 ((HQ.out.1 h).2.2.1); cases this)
    clear hr
    go_wp2_with fail
    go_ret
    exact ⟨false, rfl, ⟨(fun h => by cases h), fun h => absurd h HE.out⟩, HB1.out⟩
  | true =>
    have HP1 := Lib.hid (hr.1 rfl)
    clear hr
    obtain ⟨p0, p1, p2, p3, pf, pl⟩ := bk4 HX1.out
    obtain ⟨q0, q1, q2, q3, qf, ql⟩ := bk4 HY1.out
    have HC := eqfSel_any (n1 := n1) (n2 := n2) w1 (RowD.step (selOk n1) (fun _ h => h) (fun b o hb => World.cell?_of_block (a := ⟨b, o, none⟩) (HB1.out.block b (HD1.out b hb))) HS1.out) (RowD.step (selOk n2) (fun _ h => h) (fun b o hb => World.cell?_of_block (a := ⟨b, o, none⟩) (HB1.out.block b (HD2.out b hb))) HS2.out) (fun b h => Nat.lt_of_lt_of_le (HD1.out b h) HB1.out.size) (fun b h => Nat.lt_of_lt_of_le (HD2.out b h) HB1.out.size) (fun x _ y _ cs ds W hb hE1 hE2 => sameSel_all n2 n1 x y cs ds W D1 D2 (fun b h => Nat.lt_of_lt_of_le (HD1.out b h) (Nat.le_trans HB1.out.size hb.size)) (fun b h => Nat.lt_of_lt_of_le (HD2.out b h) (Nat.le_trans HB1.out.size hb.size)) hE1 hE2)
    go_wp2_with fail
    refine HC.mono ?_
    rintro e w2 ⟨r, rfl, hr, hb⟩
    have HB2 := Lib.hid (HB1.out.trans (hb.mono HB1.out.size))
    have HX2 := Lib.hid ((hb.block _ (by have := HSZ.out; have := HL1.out; omega)).trans HX1.out)
    have HY2 := Lib.hid ((hb.block _ (by have := HSZ.out; have := HL1.out; omega)).trans HY1.out)
    have HL2 := Lib.hid (show w.heap.size + 2 ≤ w2.heap.size from Nat.le_trans HL1.out hb.size)
    clear hb HC
    clear p0 q0 p1 q1 p2 q2 p3 q3 pf qf pl ql
    cases r with
    | false =>
      have HE := Lib.hid (show ¬ (x = y) from fun h => by have := hr.2 ((HQ.out.1 h).2.2.2); cases this)
      clear hr
      go_wp2_with fail
      go_ret
      exact ⟨false, rfl, ⟨(fun h => by cases h), fun h => absurd h HE.out⟩, HB2.out⟩
    | true =>
      have HP2 := Lib.hid (hr.1 rfl)
      clear hr
      obtain ⟨p0, p1, p2, p3, pf, pl⟩ := bk4 HX2.out
      obtain ⟨q0, q1, q2, q3, qf, ql⟩ := bk4 HY2.out
      go_wp2_with fail
      go_ret
      exact ⟨true, rfl, ⟨fun _ => HQ.out.2 ⟨H0.out, H1.out, HP1.out, HP2.out⟩, fun _ => rfl⟩, HB2.out⟩

set_option maxHeartbeats 3000000 in
set_option maxRecDepth 100000 in
theorem sameDoc_any {D1 D2 : Nat → Prop} {x y : DocT} {v u : Value} (w : World) (hD1 : ∀ b, D1 b → b < w.heap.size) (hD2 : ∀ b, D2 b → b < w.heap.size) (hE1 : DocE w D1 x v) (hE2 : DocE w D2 y u) :
    Calls Tryz.prog 35 #[v, u] w (EqAns (x = y) w) := by
  obtain ⟨v1, v2, rfl, ho1, hf1⟩ := hE1
  obtain ⟨vo1, co1, rfl⟩ := ho1.shape
  obtain ⟨vf1, cf1, rfl⟩ := hf1.shape
  obtain ⟨v1, v2, rfl, ho2, hf2⟩ := hE2
  obtain ⟨vo2, co2, rfl⟩ := ho2.shape
  obtain ⟨vf2, cf2, rfl⟩ := hf2.shape
  have HO1 := Lib.hid ho1
  clear ho1
  have HO2 := Lib.hid ho2
  clear ho2
  have HF1 := Lib.hid hf1
  clear hf1
  have HF2 := Lib.hid hf2
  clear hf2
  have HD1 := Lib.hid hD1
  have HD2 := Lib.hid hD2
  clear hD1 hD2
  have HB := Lib.hid (((Below.refl w.heap.size w).alloc (Nat.le_refl _) (.cells #[.slice vo1 x.ops.length co1, .slice vf1 x.frags.length cf1] 25)).alloc (by simp) (.cells #[.slice vo2 y.ops.length co2, .slice vf2 y.frags.length cf2] 25))
  have HX := Lib.hid (show ((w.alloc (.cells #[.slice vo1 x.ops.length co1, .slice vf1 x.frags.length cf1] 25)).alloc (.cells #[.slice vo2 y.ops.length co2, .slice vf2 y.frags.length cf2] 25)).heap[w.heap.size]? = some (.cells #[.slice vo1 x.ops.length co1, .slice vf1 x.frags.length cf1] 25) from (Below.heap_alloc _ _ _ (by simp)).trans (heap_alloc_new _ _))
  have HY := Lib.hid (show ((w.alloc (.cells #[.slice vo1 x.ops.length co1, .slice vf1 x.frags.length cf1] 25)).alloc (.cells #[.slice vo2 y.ops.length co2, .slice vf2 y.frags.length cf2] 25)).heap[w.heap.size + 1]? = some (.cells #[.slice vo2 y.ops.length co2, .slice vf2 y.frags.length cf2] 25) from by have := heap_alloc_new (w.alloc (.cells #[.slice vo1 x.ops.length co1, .slice vf1 x.frags.length cf1] 25)) (.cells #[.slice vo2 y.ops.length co2, .slice vf2 y.frags.length cf2] 25); rwa [show (w.alloc (.cells #[.slice vo1 x.ops.length co1, .slice vf1 x.frags.length cf1] 25)).heap.size = w.heap.size + 1 by simp] at this)
  have HQ := Lib.hid (@doc_eq x y)
  have HSZ := Lib.hid (show w.heap.size + 2 ≤ ((w.alloc (.cells #[.slice vo1 x.ops.length co1, .slice vf1 x.frags.length cf1] 25)).alloc (.cells #[.slice vo2 y.ops.length co2, .slice vf2 y.frags.length cf2] 25)).heap.size by simp)
  have HC := eqfOp_any ((w.alloc (.cells #[.slice vo1 x.ops.length co1, .slice vf1 x.frags.length cf1] 25)).alloc (.cells #[.slice vo2 y.ops.length co2, .slice vf2 y.frags.length cf2] 25)) (RowD.step opOk (fun _ h => h) (fun b o hb => World.cell?_of_block (a := ⟨b, o, none⟩) (HB.out.block b (HD1.out b hb))) HO1.out) (RowD.step opOk (fun _ h => h) (fun b o hb => World.cell?_of_block (a := ⟨b, o, none⟩) (HB.out.block b (HD2.out b hb))) HO2.out) (fun b h => Nat.lt_of_lt_of_le (HD1.out b h) HB.out.size) (fun b h => Nat.lt_of_lt_of_le (HD2.out b h) HB.out.size) (fun x _ y _ cs ds W hb hE1 hE2 => sameOp_any W (fun b h => Nat.lt_of_lt_of_le (HD1.out b h) (Nat.le_trans HB.out.size hb.size)) (fun b h => Nat.lt_of_lt_of_le (HD2.out b h) (Nat.le_trans HB.out.size hb.size)) hE1 hE2)
  show Calls Tryz.prog 35 #[.agg #[.slice vo1 x.ops.length co1, .slice vf1 x.frags.length cf1], .agg #[.slice vo2 y.ops.length co2, .slice vf2 y.frags.length cf2]] w _
  go_enter Tryz.func35, Tryz.ntmps35
  go_wp2_with fail
  refine HC.mono ?_
  rintro e w1 ⟨r, rfl, hr, hb⟩
  have HB1 := Lib.hid (HB.out.trans (hb.mono HB.out.size))
  have HX1 := Lib.hid ((hb.block _ (by have := HSZ.out; omega)).trans HX.out)
  have HY1 := Lib.hid ((hb.block _ (by have := HSZ.out; omega)).trans HY.out)
  have HL1 := Lib.hid (show w.heap.size + 2 ≤ w1.heap.size from Nat.le_trans HSZ.out hb.size)
  clear hb HC
  cases r with
  | false =>
    have HE := Lib.hid (show ¬ (x = y) from fun h => by have := hr.2 ((HQ.out.1 h).1); cases this)
    clear hr
    go_wp2_with fail
    go_ret
    exact ⟨false, rfl, ⟨(fun h => by cases h), fun h => absurd h HE.out⟩, HB1.out⟩
  | true =>
    have HP1 := Lib.hid (hr.1 rfl)
    clear hr
    obtain ⟨p0, p1, pf, pl⟩ := bk2 HX1.out
    obtain ⟨q0, q1, qf, ql⟩ := bk2 HY1.out
    have HC := eqfFrag_any w1 (RowD.step fragOk (fun _ h => h) (fun b o hb => World.cell?_of_block (a := ⟨b, o, none⟩) (HB1.out.block b (HD1.out b hb))) HF1.out) (RowD.step fragOk (fun _ h => h) (fun b o hb => World.cell?_of_block (a := ⟨b, o, none⟩) (HB1.out.block b (HD2.out b hb))) HF2.out) (fun b h => Nat.lt_of_lt_of_le (HD1.out b h) HB1.out.size) (fun b h => Nat.lt_of_lt_of_le (HD2.out b h) HB1.out.size) (fun x _ y _ cs ds W hb hE1 hE2 => sameFrag_any W (fun b h => Nat.lt_of_lt_of_le (HD1.out b h) (Nat.le_trans HB1.out.size hb.size)) (fun b h => Nat.lt_of_lt_of_le (HD2.out b h) (Nat.le_trans HB1.out.size hb.size)) hE1 hE2)
    go_wp2_with fail
    refine HC.mono ?_
    rintro e w2 ⟨r, rfl, hr, hb⟩
    have HB2 := Lib.hid (HB1.out.trans (hb.mono HB1.out.size))
    have HX2 := Lib.hid ((hb.block _ (by have := HSZ.out; have := HL1.out; omega)).trans HX1.out)
    have HY2 := Lib.hid ((hb.block _ (by have := HSZ.out; have := HL1.out; omega)).trans HY1.out)
    have HL2 := Lib.hid (show w.heap.size + 2 ≤ w2.heap.size from Nat.le_trans HL1.out hb.size)
    clear hb HC
    clear p0 q0 p1 q1 pf qf pl ql
    cases r with
    | false =>
      have HE := Lib.hid (show ¬ (x = y) from fun h => by have := hr.2 ((HQ.out.1 h).2); cases this)
      clear hr
      go_wp2_with fail
      go_ret
      exact ⟨false, rfl, ⟨(fun h => by cases h), fun h => absurd h HE.out⟩, HB2.out⟩
    | true =>
      have HP2 := Lib.hid (hr.1 rfl)
      clear hr
      obtain ⟨p0, p1, pf, pl⟩ := bk2 HX2.out
      obtain ⟨q0, q1, qf, ql⟩ := bk2 HY2.out
      go_wp2_with fail
      go_ret
      exact ⟨true, rfl, ⟨fun _ => HQ.out.2 ⟨HP1.out, HP2.out⟩, fun _ => rfl⟩, HB2.out⟩

end Go.Proofs.YtkfllppggjhhmaaGreatDoor
