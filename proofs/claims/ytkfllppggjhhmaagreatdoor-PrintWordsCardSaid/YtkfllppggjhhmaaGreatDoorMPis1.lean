/-
  print.isSame: its parts.
-/
import Derived.Test.YtkfllppggjhhmaaGreatDoorMPqVar
import Derived.Test.YtkfllppggjhhmaaGreatDoorMPqFrag
import Derived.Test.YtkfllppggjhhmaaGreatDoorMPwc1
namespace Go.Proofs.YtkfllppggjhhmaaGreatDoor
open Go.RowKit
set_option linter.unusedVariables false

theorem tl_eq {a b : ByteArray} (h : a = b) : (a.toList == b.toList) = true := by rw [h]; exact beq_self_eq_true _
theorem tl_ne {a b : ByteArray} (h : a ≠ b) : (a.toList == b.toList) = false := by
  rw [Lib.toList_data, Lib.toList_data, beq_eq_false_iff_ne]
  intro e
  apply h
  cases a; cases b
  simp only at e
  rw [Array.toList_inj.1 e]
set_option maxHeartbeats 3000000 in
set_option maxRecDepth 100000 in
theorem seq_any {D1 D2 : Nat → Prop} {xs ys : List ByteArray} {a1 a2 : Option Addr} {c1 c2 : Nat} (w : World) (h1 : StrsD w D1 a1 xs) (h2 : StrsD w D2 a2 ys) (hx : xs.length ≤ 2000000) (hc1 : xs.length ≤ c1) (hc2 : ys.length ≤ c2) :
    Calls Tryz.prog 213 #[.slice a1 xs.length c1, .slice a2 ys.length c2] w (EqAns (xs = ys) w) := by
  have HR1 := Lib.hid h1
  have HR2 := Lib.hid h2
  clear h1 h2
  by_cases hll : xs.length = ys.length
  · have HLL := Lib.hid hll
    rw [← hll] at hc2 ⊢
    clear hll
    go_enter Tryz.func213, Tryz.ntmps213
    go_wp2_with fail
    go_loopg [5, 13] xs.length (fun j _ v13 wr => ∃ i : Nat, v13 = .int .i64 (i : Int) ∧ i ≤ xs.length ∧ j = xs.length - i ∧ Hid (xs.take i = ys.take i) ∧ Below w.heap.size w wr ∧ ∀ b o, wr.cell? ⟨b, o, none⟩ = w.cell? ⟨b, o, none⟩)
    case atStart => exact ⟨0, rfl, Nat.zero_le _, rfl, Lib.hid rfl, Below.refl _ _, fun _ _ => rfl⟩
    case round =>
      obtain ⟨i, rfl, hi, hj, HT, hb, hce⟩ := hrel
      have HB := Lib.hid hb
      have HCE := Lib.hid hce
      have hw : IntKind.i64.wrap ((i : Int) + 1) = (i : Int) + 1 := IntWalk.i64_in _ (by omega)
      by_cases hlt : i < xs.length
      · have hd : decide ((i : Int) < (xs.length : Int)) = true := decide_eq_true (by omega)
        have hd2 : decide (i < xs.length) = true := decide_eq_true hlt
        have hlty : i < ys.length := by rw [← HLL.out]; exact hlt
        obtain ⟨g1, off1, rfl, hDg1, hel1⟩ := HR1.out (by omega)
        obtain ⟨g2, off2, rfl, hDg2, hel2⟩ := HR2.out (by omega)
        have hxi : xs[i]? = some xs[i] := List.getElem?_eq_getElem hlt
        have hyi : ys[i]? = some ys[i] := List.getElem?_eq_getElem hlty
        have k1 := (hce g1 (off1 + i)).trans (hel1 i _ hxi).2
        have k2 := (hce g2 (off2 + i)).trans (hel2 i _ hyi).2
        have HTK := Lib.hid (show xs[i] = ys[i] → xs.take (i + 1) = ys.take (i + 1) from fun h => by rw [List.take_add_one, List.take_add_one, HT.out, hxi, hyi, h])
        have HNE := Lib.hid (show xs[i] ≠ ys[i] → xs ≠ ys from fun h e => h (by
          have h3 : xs[i]? = ys[i]? := by rw [e]
          rw [hxi, hyi] at h3
          exact Option.some.inj h3))
        generalize xs[i] = x at *
        generalize ys[i] = y at *
        have hl1 := cell_lt k1
        have hl2 := cell_lt k2
        have hicp1 : i < c1 := by omega
        have hicp2 : i < c2 := by omega
        clear hxi hyi hlty hel1 hel2 hce hb
        by_cases hq : x = y
        · have e1 : (x.toList == y.toList) = true := tl_eq hq
          have HE := Lib.hid (HTK.out hq)
          clear hq
          go_wp2_with fail
          go_upto_region 6 with fail
          go_quiet (fail)
          go_wp2_with fail
          go_roundg (xs.length - (i + 1))
          case measure => omega
          case rel => exact ⟨i + 1, by simp, by omega, rfl, HE, below_drewN HB.out _, HCE.out⟩
        · have e1 : (x.toList == y.toList) = false := tl_ne hq
          have HE := Lib.hid (HNE.out hq)
          clear hq
          go_wp2_with fail
          go_upto_region 6 with fail
          go_quiet (fail)
          go_wp2_with fail
          go_ret
          exact ⟨false, rfl, ⟨(fun h => by cases h), fun h => absurd h HE.out⟩, below_drewN HB.out _⟩
      · have hd : decide ((i : Int) < (xs.length : Int)) = false := decide_eq_false (by omega)
        have hd2 : decide (i < xs.length) = false := decide_eq_false hlt
        have HE := Lib.hid (show xs = ys by
          have := HT.out
          rwa [List.take_of_length_le (by omega), List.take_of_length_le (by rw [← HLL.out]; omega)] at this)
        clear hb hce
        go_wp2_with fail
        go_ret
        exact ⟨true, rfl, ⟨fun _ => HE.out, fun _ => rfl⟩, HB.out⟩
  · have h1 : ((xs.length : Int) == (ys.length : Int)) = false := by rw [beq_eq_false_iff_ne]; omega
    have h2 : ((xs.length : Int) != (ys.length : Int)) = true := by unfold bne; rw [h1]; rfl
    have h3 : (xs.length == ys.length) = false := by rw [beq_eq_false_iff_ne]; omega
    have HE := Lib.hid (show xs ≠ ys from fun e => hll (by rw [e]))
    clear HR1 HR2
    go_enter Tryz.func213, Tryz.ntmps213
    go_wp2_with fail
    go_ret
    exact ⟨false, rfl, ⟨(fun h => by cases h), fun h => absurd h HE.out⟩, Below.refl _ _⟩

/-- What isSameValue answers, of a parsed value at most m deep. -/
def SameAt (m : Nat) : Prop := ∀ (n1 : Nat) (x y : JV) (v u : Value) (w : World) (D1 D2 : Nat → Prop), (∀ b, D1 b → b < w.heap.size) → (∀ b, D2 b → b < w.heap.size) → RdD w D1 n1 x v → RdD w D2 m y u →
  Calls Tryz.prog 160 #[v, u] w (EqAns (x = y) w)

theorem strsD_step {w w' : World} {D : Nat → Prop} {a : Option Addr} {ns : List ByteArray} (hk : ∀ b o, D b → w'.cell? ⟨b, o, none⟩ = w.cell? ⟨b, o, none⟩) (h : StrsD w D a ns) : StrsD w' D a ns := fun hp => by
  obtain ⟨b, off, e, hb, hc⟩ := h hp
  exact ⟨b, off, e, hb, fun j x hx => ⟨(hc j x hx).1, (hk b _ hb).trans (hc j x hx).2⟩⟩

set_option maxHeartbeats 3000000 in
set_option maxRecDepth 100000 in
theorem sameVal_step (m : Nat) (ih : ∀ m', m = m' + 1 → SameAt m') : SameAt m := by
  intro n1 x y v u w D1 D2 hD1 hD2 h1 h2
  match n1, m, h1, h2, ih with
  | n1 + 1, m + 1, h1, h2, ih =>
  obtain ⟨an1, cn1, ap1, cp1, rfl, ⟨z11, z12, z13, z14, z15⟩, hs1, hr1⟩ := h1
  obtain ⟨an2, cn2, ap2, cp2, rfl, ⟨z21, z22, z23, z24, z25⟩, hs2, hr2⟩ := h2
  have HS1 := Lib.hid hs1
  have HS2 := Lib.hid hs2
  have HR1 := Lib.hid (rows_row hr1 z13 z15)
  have HR2 := Lib.hid (rows_row hr2 z23 z25)
  have HD1 := Lib.hid hD1
  have HD2 := Lib.hid hD2
  have HIH := Lib.hid (ih m rfl)
  clear hs1 hs2 hr1 hr2 hD1 hD2 ih
  have HB := Lib.hid (((Below.refl w.heap.size w).alloc (Nat.le_refl _) (.cells #[.int .i64 x.k, .string x.s, .slice an1 x.ns.length cn1, .slice ap1 x.ps.length cp1] 53)).alloc (by simp) (.cells #[.int .i64 y.k, .string y.s, .slice an2 y.ns.length cn2, .slice ap2 y.ps.length cp2] 53))
  have HX := Lib.hid (show ((w.alloc (.cells #[.int .i64 x.k, .string x.s, .slice an1 x.ns.length cn1, .slice ap1 x.ps.length cp1] 53)).alloc (.cells #[.int .i64 y.k, .string y.s, .slice an2 y.ns.length cn2, .slice ap2 y.ps.length cp2] 53)).heap[w.heap.size]? = some (.cells #[.int .i64 x.k, .string x.s, .slice an1 x.ns.length cn1, .slice ap1 x.ps.length cp1] 53) from (Below.heap_alloc _ _ _ (by simp)).trans (heap_alloc_new _ _))
  have HY := Lib.hid (show ((w.alloc (.cells #[.int .i64 x.k, .string x.s, .slice an1 x.ns.length cn1, .slice ap1 x.ps.length cp1] 53)).alloc (.cells #[.int .i64 y.k, .string y.s, .slice an2 y.ns.length cn2, .slice ap2 y.ps.length cp2] 53)).heap[w.heap.size + 1]? = some (.cells #[.int .i64 y.k, .string y.s, .slice an2 y.ns.length cn2, .slice ap2 y.ps.length cp2] 53) from by have := heap_alloc_new (w.alloc (.cells #[.int .i64 x.k, .string x.s, .slice an1 x.ns.length cn1, .slice ap1 x.ps.length cp1] 53)) (.cells #[.int .i64 y.k, .string y.s, .slice an2 y.ns.length cn2, .slice ap2 y.ps.length cp2] 53); rwa [show (w.alloc (.cells #[.int .i64 x.k, .string x.s, .slice an1 x.ns.length cn1, .slice ap1 x.ps.length cp1] 53)).heap.size = w.heap.size + 1 by simp] at this)
  have HQ := Lib.hid (@jv_eq x y)
  have HSZ := Lib.hid (show w.heap.size + 2 ≤ ((w.alloc (.cells #[.int .i64 x.k, .string x.s, .slice an1 x.ns.length cn1, .slice ap1 x.ps.length cp1] 53)).alloc (.cells #[.int .i64 y.k, .string y.s, .slice an2 y.ns.length cn2, .slice ap2 y.ps.length cp2] 53)).heap.size by simp)
  by_cases h0 : x.k = y.k
  rotate_left
  · have e0 : (x.k == y.k) = false := by rw [beq_eq_false_iff_ne]; exact h0
    have HE := Lib.hid (show ¬ (x = y) from fun h => h0 (HQ.out.1 h).1)
    clear HX HY HSZ HQ HS1 HS2 HR1 HR2 HD1 HD2 HIH
    clear h0
    show Calls Tryz.prog 160 #[.agg #[.int .i64 x.k, .string x.s, .slice an1 x.ns.length cn1, .slice ap1 x.ps.length cp1], .agg #[.int .i64 y.k, .string y.s, .slice an2 y.ns.length cn2, .slice ap2 y.ps.length cp2]] w _
    go_enter Tryz.func160, Tryz.ntmps160
    go_wp2_with fail
    go_ret
    exact ⟨false, rfl, ⟨(fun h => by cases h), fun h => absurd h HE.out⟩, HB.out⟩
  have e0 : (x.k == y.k) = true := by rw [h0]; exact beq_self_eq_true _
  by_cases h1 : x.s = y.s
  rotate_left
  · have e1 : (x.s.toList == y.s.toList) = false := tl_ne h1
    have HE := Lib.hid (show ¬ (x = y) from fun h => h1 (HQ.out.1 h).2.1)
    clear HX HY HSZ HQ HS1 HS2 HR1 HR2 HD1 HD2 HIH
    clear h0
    clear h1
    show Calls Tryz.prog 160 #[.agg #[.int .i64 x.k, .string x.s, .slice an1 x.ns.length cn1, .slice ap1 x.ps.length cp1], .agg #[.int .i64 y.k, .string y.s, .slice an2 y.ns.length cn2, .slice ap2 y.ps.length cp2]] w _
    go_enter Tryz.func160, Tryz.ntmps160
    go_wp2_with fail
    go_ret
    exact ⟨false, rfl, ⟨(fun h => by cases h), fun h => absurd h HE.out⟩, HB.out⟩
  have e1 : (x.s.toList == y.s.toList) = true := tl_eq h1
  have H0 := Lib.hid h0
  clear h0
  have H1 := Lib.hid h1
  clear h1
  have HC := seq_any ((w.alloc (.cells #[.int .i64 x.k, .string x.s, .slice an1 x.ns.length cn1, .slice ap1 x.ps.length cp1] 53)).alloc (.cells #[.int .i64 y.k, .string y.s, .slice an2 y.ns.length cn2, .slice ap2 y.ps.length cp2] 53)) (strsD_step (fun b o hb => World.cell?_of_block (a := ⟨b, o, none⟩) (HB.out.block b (HD1.out b hb))) HS1.out) (strsD_step (fun b o hb => World.cell?_of_block (a := ⟨b, o, none⟩) (HB.out.block b (HD2.out b hb))) HS2.out) z12 z14 z24
  show Calls Tryz.prog 160 #[.agg #[.int .i64 x.k, .string x.s, .slice an1 x.ns.length cn1, .slice ap1 x.ps.length cp1], .agg #[.int .i64 y.k, .string y.s, .slice an2 y.ns.length cn2, .slice ap2 y.ps.length cp2]] w _
  go_enter Tryz.func160, Tryz.ntmps160
  go_wp2_with fail
  refine HC.mono ?_
  rintro e w1 ⟨r, rfl, hr, hb⟩
  have HB1 := Lib.hid (HB.out.trans (hb.mono HB.out.size))
  have HX1 := Lib.hid ((hb.block _ (by have := HSZ.out; omega)).trans HX.out)
  have HY1 := Lib.hid ((hb.block _ (by have := HSZ.out; omega)).trans HY.out)
  have HL1 := Lib.hid (show w.heap.size + 2 ≤ w1.heap.size from Nat.le_trans HSZ.out hb.size)
  clear hb HC
  cases r with
  | false =>
    have HE := Lib.hid (show ¬ (x = y) from fun h => by have := hr.2 ((HQ.out.1 h).2.2.1); cases this)
    clear hr
    go_wp2_with fail
    go_ret
    exact ⟨false, rfl, ⟨(fun h => by cases h), fun h => absurd h HE.out⟩, HB1.out⟩
  | true =>
    have HP1 := Lib.hid (hr.1 rfl)
    clear hr
    obtain ⟨p0, p1, p2, p3, pf, pl⟩ := bk4 HX1.out
    obtain ⟨q0, q1, q2, q3, qf, ql⟩ := bk4 HY1.out
    have HC := eqfVal_any (n1 := n1) (n2 := m) w1 (RowD.step (valOk n1) (fun _ h => h) (fun b o hb => World.cell?_of_block (a := ⟨b, o, none⟩) (HB1.out.block b (HD1.out b hb))) HR1.out) (RowD.step (valOk m) (fun _ h => h) (fun b o hb => World.cell?_of_block (a := ⟨b, o, none⟩) (HB1.out.block b (HD2.out b hb))) HR2.out) (fun b h => Nat.lt_of_lt_of_le (HD1.out b h) HB1.out.size) (fun b h => Nat.lt_of_lt_of_le (HD2.out b h) HB1.out.size) (fun x _ y _ cs ds W hb hE1 hE2 => by
      obtain ⟨a0, a1, a2, a3, rfl, hA⟩ := hE1
      obtain ⟨b0, b1, b2, b3, rfl, hB⟩ := hE2
      exact HIH.out n1 x y _ _ W D1 D2 (fun b h => Nat.lt_of_lt_of_le (HD1.out b h) (Nat.le_trans HB1.out.size hb.size)) (fun b h => Nat.lt_of_lt_of_le (HD2.out b h) (Nat.le_trans HB1.out.size hb.size)) hA hB)
    go_wp2_with fail
    refine HC.mono ?_
    rintro e w2 ⟨r, rfl, hr, hb⟩
    have HB2 := Lib.hid (HB1.out.trans (hb.mono HB1.out.size))
    have HX2 := Lib.hid ((hb.block _ (by have := HSZ.out; have := HL1.out; omega)).trans HX1.out)
    have HY2 := Lib.hid ((hb.block _ (by have := HSZ.out; have := HL1.out; omega)).trans HY1.out)
    have HL2 := Lib.hid (show w.heap.size + 2 ≤ w2.heap.size from Nat.le_trans HL1.out hb.size)
    clear hb HC
    clear p0 q0 p1 q1 p2 q2 p3 q3 pf qf pl ql
    cases r with
    | false =>
      have HE := Lib.hid (show ¬ (x = y) from fun h => by have := hr.2 ((HQ.out.1 h).2.2.2); cases this)
      clear hr
      go_wp2_with fail
      go_ret
      exact ⟨false, rfl, ⟨(fun h => by cases h), fun h => absurd h HE.out⟩, HB2.out⟩
    | true =>
      have HP2 := Lib.hid (hr.1 rfl)
      clear hr
      obtain ⟨p0, p1, p2, p3, pf, pl⟩ := bk4 HX2.out
      obtain ⟨q0, q1, q2, q3, qf, ql⟩ := bk4 HY2.out
      go_wp2_with fail
      go_ret
      exact ⟨true, rfl, ⟨fun _ => HQ.out.2 ⟨H0.out, H1.out, HP1.out, HP2.out⟩, fun _ => rfl⟩, HB2.out⟩

theorem sameVal_any : ∀ m, SameAt m
  | 0 => fun n1 x y v u w D1 D2 _ _ _ h => h.elim
  | m + 1 => sameVal_step (m + 1) fun m' e => by injection e with e; subst e; exact sameVal_any m

end Go.Proofs.YtkfllppggjhhmaaGreatDoor
