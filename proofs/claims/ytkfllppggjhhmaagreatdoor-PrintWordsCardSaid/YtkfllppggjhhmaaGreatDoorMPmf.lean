/-
  What value.write and value.Text write.
-/
import Derived.Test.YtkfllppggjhhmaaGreatDoorMV11
import Derived.Test.YtkfllppggjhhmaaGreatDoorMSmall
import Derived.Test.YtkfllppggjhhmaaGreatDoorMV2
import Derived.Deep.LoopGhost
namespace Go.Proofs.YtkfllppggjhhmaaGreatDoor
open Go.RowKit
set_option linter.unusedSimpArgs false

/-- Which parts may be read, m levels ahead. -/
def partsOk : Nat → JV → Bool
  | 0, _ => false
  | m + 1, x => x.ps.all (rdOk m)
theorem rdOk_eq (m : Nat) (x : JV) : rdOk m x = (selfV x && (!compV x || partsOk m x)) := by
  cases m with
  | zero => unfold rdOk partsOk; rw [Bool.or_false]
  | succ m => rfl

set_option maxHeartbeats 1000000 in
theorem vwriteParts_deep (d : Nat) (hd : 12 < d) (bg en : ByteArray) (v3 v4 : Value) (w : World) (B b : Nat) (l : List UInt8) (hB : B ≤ w.heap.size) :
    Calls Tryz.prog 288 #[.pointer (some ⟨b, 0, none⟩), .string bg, v3, v4, .string en, .int .i64 d] w (WOut B b false l w) := by
  have hd12 : decide ((12 : Int) < (d : Int)) = true := decide_eq_true (by omega)
  go_enter Tryz.func288, Tryz.ntmps288
  go_wp2_with fail
  go_ret
  exact ⟨rfl, fun h => absurd h (by decide), (Below.refl _ _).mono hB, Lib.OthersKept.refl _ _ _⟩

theorem WOut.after {B b : Nat} {ok : Bool} {l : List UInt8} {w W : World} {e : Ending} {w' : World} (h : WOut B b ok l W e w') (hb : Below B w W) (hk : Lib.OthersKept 5 (some b) w W) : WOut B b ok l w e w' :=
  ⟨h.1, h.2.1, hb.trans h.2.2.1, hk.trans h.2.2.2⟩

/-- What writeParts is asked at a list, at an object. -/
def PartsAt (m d : Nat) : Prop := ∀ (n : Nat) (x : JV) (an : Option Addr) (cn : Nat) (ap : Option Addr) (cp : Nat) (w : World) (B b : Nat) (bs : List UInt8), Strs w B an x.ns → Rows4 w B (Rd w B n) ap x.ps → x.ns.length ≤ 2000000 → x.ps.length ≤ 2000000 → x.ns.length ≤ cn → x.ps.length ≤ cp →
    Bld 81 B b [] (Lib.byteCells bs) w → bs.length + (vtxt m x).length ≤ 140737488355328 → B ≤ w.heap.size →
    (x.k = 7 → Calls Tryz.prog 288 #[.pointer (some ⟨b, 0, none⟩), .string ⟨#[91]⟩, .slice none 0 0, .slice ap x.ps.length cp, .string ⟨#[93]⟩, .int .i64 d] w (WOut B b (partsOk m x) (bs ++ vtxt m x) w)) ∧
    (x.k = 8 → x.ns.length = x.ps.length → Calls Tryz.prog 288 #[.pointer (some ⟨b, 0, none⟩), .string ⟨#[123]⟩, .slice an x.ns.length cn, .slice ap x.ps.length cp, .string ⟨#[125]⟩, .int .i64 d] w (WOut B b (partsOk m x) (bs ++ vtxt m x) w))
theorem partsAt_zero (d : Nat) (hd : 12 < d) : PartsAt 0 d := fun _ _ _ _ _ _ w B b _ _ _ _ _ _ _ _ _ hB => ⟨fun _ => vwriteParts_deep d hd _ _ _ _ w B b _ hB, fun _ _ => vwriteParts_deep d hd _ _ _ _ w B b _ hB⟩
theorem partsAt_succ (m d : Nat) (hd : d ≤ 12) (ih : WValV m (d + 1)) : PartsAt (m + 1) d := fun n x an cn ap cp w B b bs hs hr z2 z3 z4 z5 hbld hlen hB => by
  refine ⟨fun h7 => ?_, fun h8 hns => ?_⟩
  · have hT : vtxt (m + 1) x = [91] ++ (vpts (vtxt m) false true x.ns x.ps ++ [93]) := by unfold vtxt; rw [if_pos h7]
    rw [hT] at hlen ⊢
    exact vwriteParts_list m d ih hd n x ap cp ⟨#[91]⟩ ⟨#[93]⟩ w B b bs hr z3 z5 hbld (by simp only [List.length_append, List.length_cons, List.length_nil] at hlen; show bs.length + (1 + (_ + 1)) ≤ _; omega) hB
  · have hT : vtxt (m + 1) x = [123] ++ (vpts (vtxt m) true true x.ns x.ps ++ [125]) := by unfold vtxt; rw [if_neg (by omega), if_pos h8]
    rw [hT] at hlen ⊢
    exact vwriteParts_obj m d ih hd n x an cn ap cp ⟨#[123]⟩ ⟨#[125]⟩ w B b bs hs hr z2 z3 z4 z5 hns hbld (by simp only [List.length_append, List.length_cons, List.length_nil] at hlen; show bs.length + (1 + (_ + 1)) ≤ _; omega) hB

set_option maxHeartbeats 4000000 in
set_option maxRecDepth 100000 in
theorem vwrite_step (m d : Nat) (HP : PartsAt m d) : WValV m d := by
  intro n x v w B b bs h hbld hlen hB
  match n, h with
  | n + 1, h =>
  obtain ⟨an, cn, ap, cp, rfl, ⟨z1, z2, z3, z4, z5⟩, hs, hr⟩ := h
  have hbl := hbld.lt
  have HR := Lib.hid (rdOk_eq m x)
  by_cases h7 : x.k = 7
  · have HN := Lib.hid (show nodeV x.k (.agg #[.int .i64 x.k, .string x.s, .slice an x.ns.length cn, .slice ap x.ps.length cp]) = .iface 300 (.agg #[.int .i64 x.k, .string x.s, .slice an x.ns.length cn, .slice ap x.ps.length cp]) by unfold nodeV; rw [if_pos h7])
    have hm : ∀ (c0 c1 c2 c3 : Value) (w : World), (method 450 300 (.agg #[c0, c1, c2, c3]) "refectory/value.readable").run Tryz.prog w = .ok (350, .agg #[c0, c1, c2, c3]) w := fun _ _ _ _ _ => by kernel_rfl
    have ht : ∀ (v : Value) (W : World), (Instr.typeAssert (.iface 300 v) 286 300 true).run Tryz.prog W = .ok (.tuple #[v, .bool true]) W := fun v W => by kernel_rfl
    have HL := listReadable_any x.k x.s an x.ns.length cn ap x.ps.length cp w
    have HS := Lib.hid (show selfV x = (decide (x.s.size = 0) && decide (x.ns.length = 0)) by unfold selfV; rw [if_pos h7])
    have HC := Lib.hid (show compV x = true by unfold compV; rw [h7]; rfl)
    have H7 := Lib.hid h7
    rw [← HS.out] at HL
    rw [HN.out]
    clear h7
    cases hsf : selfV x with
    | false =>
      have HF := Lib.hid (show rdOk m x = false by rw [HR.out, hsf]; rfl)
      rw [hsf] at HL
      clear hsf
      go_enter Tryz.func258, Tryz.ntmps258
      go_wp2_with fail
      refine HL.mono ?_
      rintro e w1 ⟨rfl, b1⟩
      go_wp2_with fail
      go_ret
      exact ⟨by rw [HF.out]; rfl, fun h => absurd (HF.out.symm.trans h) (by decide), b1.mono hB, kept_below b1⟩
    | true =>
      have HF := Lib.hid (show rdOk m x = partsOk m x by rw [HR.out, hsf, HC.out]; rfl)
      rw [hsf] at HL
      clear hsf
      go_enter Tryz.func258, Tryz.ntmps258
      go_wp2_with fail
      refine HL.mono ?_
      rintro e w1 ⟨rfl, b1⟩
      have b2 : Below w.heap.size w (w1.alloc (.cells #[.int .i64 x.k, .string x.s, .slice an x.ns.length cn, .slice ap x.ps.length cp] 300)) := b1.alloc b1.size _
      have HW := (HP (n) x an cn ap cp (w1.alloc (.cells #[.int .i64 x.k, .string x.s, .slice an x.ns.length cn, .slice ap x.ps.length cp] 300)) B b bs (hs.below (b2.mono hB)) (hr.below (b2.mono hB)) z2 z3 z4 z5 (hbld.below b2) hlen (Nat.le_trans hB b2.size)).1 H7.out
      have HB := Lib.hid (b2.mono hB)
      have HK := Lib.hid (kept_below (e := 5) (b := some b) b2)
      clear HP hs hr b2 HL hbld
      go_wp2_with fail
      refine HW.mono ?_
      intro e w2 hw
      have hw2 := hw.after HB.out HK.out
      obtain ⟨rfl, q1, q2, q3⟩ := hw2
      clear hw HW
      go_wp2_with fail
      go_ret
      exact ⟨by rw [HF.out]; rfl, fun h => q1 (HF.out.symm.trans h), q2, q3⟩
  by_cases h8 : x.k = 8
  · have HN := Lib.hid (show nodeV x.k (.agg #[.int .i64 x.k, .string x.s, .slice an x.ns.length cn, .slice ap x.ps.length cp]) = .iface 302 (.agg #[.int .i64 x.k, .string x.s, .slice an x.ns.length cn, .slice ap x.ps.length cp]) by unfold nodeV; rw [if_neg h7, if_pos h8])
    have hm : ∀ (c0 c1 c2 c3 : Value) (w : World), (method 450 302 (.agg #[c0, c1, c2, c3]) "refectory/value.readable").run Tryz.prog w = .ok (351, .agg #[c0, c1, c2, c3]) w := fun _ _ _ _ _ => by kernel_rfl
    have ht0 : ∀ (v : Value) (W : World), (Instr.typeAssert (.iface 302 v) 286 300 true).run Tryz.prog W = .ok (.tuple #[.agg #[.int .i64 0, .string ⟨#[]⟩, .slice none 0 0, .slice none 0 0], .bool false]) W := fun v W => by kernel_rfl
    have ht : ∀ (v : Value) (W : World), (Instr.typeAssert (.iface 302 v) 286 302 true).run Tryz.prog W = .ok (.tuple #[v, .bool true]) W := fun v W => by kernel_rfl
    have HL := objectReadable_any B x.k x.s an x.ns cn ap x.ps.length cp w hB z2 hs
    have HS := Lib.hid (show selfV x = (decide (x.s.size = 0) && decide (x.ns.length = x.ps.length) && x.ns.all (fun n => nameB (vbl n))) by unfold selfV; rw [if_neg h7, if_pos h8])
    have HC := Lib.hid (show compV x = true by unfold compV; rw [h8]; rfl)
    have H8 := Lib.hid h8
    rw [← HS.out] at HL
    rw [HN.out]
    cases hsf : selfV x with
    | false =>
      have HF := Lib.hid (show rdOk m x = false by rw [HR.out, hsf]; rfl)
      rw [hsf] at HL
      clear hsf h7 h8
      go_enter Tryz.func258, Tryz.ntmps258
      go_wp2_with fail
      refine HL.mono ?_
      rintro e w1 ⟨rfl, b1⟩
      go_wp2_with fail
      go_ret
      exact ⟨by rw [HF.out]; rfl, fun h => absurd (HF.out.symm.trans h) (by decide), b1.mono hB, kept_below b1⟩
    | true =>
      have HF := Lib.hid (show rdOk m x = partsOk m x by rw [HR.out, hsf, HC.out]; rfl)
      have HNS := Lib.hid (vs_object h8 hsf).2.1
      rw [hsf] at HL
      clear hsf h7 h8
      go_enter Tryz.func258, Tryz.ntmps258
      go_wp2_with fail
      refine HL.mono ?_
      rintro e w1 ⟨rfl, b1⟩
      have b2 : Below w.heap.size w (w1.alloc (.cells #[.int .i64 x.k, .string x.s, .slice an x.ns.length cn, .slice ap x.ps.length cp] 302)) := b1.alloc b1.size _
      have HW := (HP (n) x an cn ap cp (w1.alloc (.cells #[.int .i64 x.k, .string x.s, .slice an x.ns.length cn, .slice ap x.ps.length cp] 302)) B b bs (hs.below (b2.mono hB)) (hr.below (b2.mono hB)) z2 z3 z4 z5 (hbld.below b2) hlen (Nat.le_trans hB b2.size)).2 H8.out HNS.out
      have HB := Lib.hid (b2.mono hB)
      have HK := Lib.hid (kept_below (e := 5) (b := some b) b2)
      clear HP hs hr b2 HL hbld
      go_wp2_with fail
      refine HW.mono ?_
      intro e w2 hw
      have hw2 := hw.after HB.out HK.out
      obtain ⟨rfl, q1, q2, q3⟩ := hw2
      clear hw HW
      go_wp2_with fail
      go_ret
      exact ⟨by rw [HF.out]; rfl, fun h => q1 (HF.out.symm.trans h), q2, q3⟩
  have HN := Lib.hid (show nodeV x.k (.agg #[.int .i64 x.k, .string x.s, .slice an x.ns.length cn, .slice ap x.ps.length cp]) = .iface 303 (.agg #[.int .i64 x.k, .string x.s, .slice an x.ns.length cn, .slice ap x.ps.length cp]) by unfold nodeV; rw [if_neg h7, if_neg h8])
  have hm : ∀ (c0 c1 c2 c3 : Value) (w : World), (method 450 303 (.agg #[c0, c1, c2, c3]) "refectory/value.readable").run Tryz.prog w = .ok (352, .agg #[c0, c1, c2, c3]) w := fun _ _ _ _ _ => by kernel_rfl
  have ht0 : ∀ (v : Value) (W : World), (Instr.typeAssert (.iface 303 v) 286 300 true).run Tryz.prog W = .ok (.tuple #[.agg #[.int .i64 0, .string ⟨#[]⟩, .slice none 0 0, .slice none 0 0], .bool false]) W := fun v W => by kernel_rfl
  have ht1 : ∀ (v : Value) (W : World), (Instr.typeAssert (.iface 303 v) 286 302 true).run Tryz.prog W = .ok (.tuple #[.agg #[.int .i64 0, .string ⟨#[]⟩, .slice none 0 0, .slice none 0 0], .bool false]) W := fun v W => by kernel_rfl
  have ht : ∀ (v : Value) (W : World), (Instr.typeAssert (.iface 303 v) 286 303 true).run Tryz.prog W = .ok (.tuple #[v, .bool true]) W := fun v W => by kernel_rfl
  have HC := Lib.hid (comp_no h7 h8)
  have HT := Lib.hid (vtxt_leaf (m := m) h7 h8)
  have HS := Lib.hid (show selfV x = (decide (x.ns.length = 0) && decide (x.ps.length = 0) && leafOk x) by unfold selfV; rw [if_neg h7, if_neg h8])
  rw [HN.out]
  clear h7 h8 HP
  by_cases hz : x.ns.length ≠ 0 ∨ x.ps.length ≠ 0
  · have HF := Lib.hid (show rdOk m x = false by
      rw [HR.out, HS.out]
      rcases hz with e | e
      · rw [decide_eq_false e]; rfl
      · rw [decide_eq_false e, Bool.and_false]; rfl)
    have HL := leafReadable_none x.k x.s an x.ns.length cn ap x.ps.length cp w hz
    clear hz
    go_enter Tryz.func258, Tryz.ntmps258
    go_wp2_with fail
    refine HL.mono ?_
    rintro e w1 ⟨rfl, b1⟩
    go_wp2_with fail
    go_ret
    exact ⟨by rw [HF.out]; rfl, fun h => absurd (HF.out.symm.trans h) (by decide), b1.mono hB, kept_below b1⟩
  · obtain ⟨hn0, hp0⟩ : x.ns.length = 0 ∧ x.ps.length = 0 := by omega
    have HL := leafReadable_any x.k x.s an cn ap cp w z1
    have HF0 := Lib.hid (show rdOk m x = lf x.k x.s by
      rw [HR.out, HS.out, HC.out, decide_eq_true hn0, decide_eq_true hp0, Bool.not_false, Bool.true_or, Bool.and_true]
      rfl)
    have HX := Lib.hid (show leafT x = leafT (.mk x.k x.s [] []) from rfl)
    rw [hn0, hp0]
    clear hz hn0 hp0 hs hr z2 z3 z4 z5
    cases hlf : lf x.k x.s with
    | false =>
      have HF := Lib.hid (show rdOk m x = false by rw [HF0.out, hlf])
      rw [hlf] at HL
      clear hlf
      go_enter Tryz.func258, Tryz.ntmps258
      go_wp2_with fail
      refine HL.mono ?_
      rintro e w1 ⟨rfl, b1⟩
      go_wp2_with fail
      go_ret
      exact ⟨by rw [HF.out]; rfl, fun h => absurd (HF.out.symm.trans h) (by decide), b1.mono hB, kept_below b1⟩
    | true =>
      have HF := Lib.hid (show rdOk m x = true by rw [HF0.out, hlf])
      rw [hlf] at HL
      rw [HT.out] at hlen
      clear hlf
      go_enter Tryz.func258, Tryz.ntmps258
      go_wp2_with fail
      refine HL.mono ?_
      rintro e w1 ⟨rfl, b1⟩
      have b2 : Below w.heap.size w (w1.alloc (.cells #[.int .i64 x.k, .string x.s, .slice an 0 cn, .slice ap 0 cp] 303)) := b1.alloc b1.size _
      have HTX := leafText_any x.k x.s an 0 cn ap 0 cp (w1.alloc (.cells #[.int .i64 x.k, .string x.s, .slice an 0 cn, .slice ap 0 cp] 303)) z1
      clear HL
      go_wp2_with fail
      refine HTX.mono ?_
      rintro e w2 ⟨tx, rfl, htx, b3⟩
      have b4 := b2.trans (b3.mono b2.size)
      have HTt := Lib.hid htx
      have HW := wStr tx (hbld.below b4) (by rw [htx, ← HX.out]; exact hlen) (Nat.le_trans hB b4.size)
      have HB := Lib.hid (b4.mono hB)
      have HK := Lib.hid (kept_below (e := 5) (b := some b) b4)
      clear HTX htx b3 b4 b2 hbld
      go_wp2_with fail
      refine HW.mono ?_
      rintro e w3 ⟨rfl, q1, q2, q3⟩
      clear HW
      go_wp2_with fail
      go_ret
      exact ⟨by rw [HF.out]; rfl, fun _ => by rw [HT.out, HX.out, ← HTt.out]; exact q1, HB.out.trans q2, HK.out.trans q3⟩

theorem vwrite_any : ∀ (m d : Nat), d + m = 13 → WValV m d
  | 0, d, h => vwrite_step 0 d (partsAt_zero d (by omega))
  | m + 1, d, h => vwrite_step (m + 1) d (partsAt_succ m d (by omega) (vwrite_any m (d + 1) (by omega)))

/-- A value's text: empty, where it could not be read. -/
def vtextB (x : JV) : List UInt8 := if rdOk 12 x then vtxt 12 x else []

set_option maxHeartbeats 2000000 in
set_option maxRecDepth 100000 in
theorem vtext_any (B n : Nat) (x : JV) (v : Value) (w : World) (hB : B ≤ w.heap.size) (h : Rd w B n x v) (hlen : (vtxt 12 x).length ≤ 140737488355328) :
    Calls Tryz.prog 208 #[v] w (StrBelow w (vtextB x)) := by
  obtain ⟨an, cn, ap, cp, rfl⟩ := h.shape
  have hb0 : Below w.heap.size w (w.alloc (.cells #[.int .i64 x.k, .string x.s, .slice an x.ns.length cn, .slice ap x.ps.length cp] 53)) := (Below.refl _ w).alloc (Nat.le_refl _) _
  have hb1 : Below w.heap.size w ((w.alloc (.cells #[.int .i64 x.k, .string x.s, .slice an x.ns.length cn, .slice ap x.ps.length cp] 53)).alloc (.cells #[.pointer none, .slice none 0 0] 81)) := hb0.alloc (by simp) _
  have hz1 : (w.alloc (.cells #[.int .i64 x.k, .string x.s, .slice an x.ns.length cn, .slice ap x.ps.length cp] 53)).heap.size = w.heap.size + 1 := by simp
  have hz2 : ((w.alloc (.cells #[.int .i64 x.k, .string x.s, .slice an x.ns.length cn, .slice ap x.ps.length cp] 53)).alloc (.cells #[.pointer none, .slice none 0 0] 81)).heap.size = w.heap.size + 2 := by simp
  have hbl : Bld 81 (w.heap.size + 1) (w.heap.size + 1) [] (Lib.byteCells []) ((w.alloc (.cells #[.int .i64 x.k, .string x.s, .slice an x.ns.length cn, .slice ap x.ps.length cp] 53)).alloc (.cells #[.pointer none, .slice none 0 0] 81)) := by
    have := Bld.fresh 81 [] (w.alloc (.cells #[.int .i64 x.k, .string x.s, .slice an x.ns.length cn, .slice ap x.ps.length cp] 53))
    rw [hz1] at this
    exact this
  have HN := nodeOf_any x.k x.s an x.ns.length cn ap x.ps.length cp ((w.alloc (.cells #[.int .i64 x.k, .string x.s, .slice an x.ns.length cn, .slice ap x.ps.length cp] 53)).alloc (.cells #[.pointer none, .slice none 0 0] 81))
  have hRd := (h.below (hb1.mono hB)).more (show B ≤ w.heap.size + 1 by omega)
  have HB1 := Lib.hid hb1
  have HU := Lib.hid (show vtextB x = if rdOk 12 x then vtxt 12 x else [] from rfl)
  go_enter Tryz.func208, Tryz.ntmps208
  go_wp2_with fail
  refine HN.mono ?_
  rintro e w2 ⟨rfl, b2⟩
  have hs2 := b2.size
  rw [hz2] at hs2
  have b3 : Below (w.heap.size + 1) ((w.alloc (.cells #[.int .i64 x.k, .string x.s, .slice an x.ns.length cn, .slice ap x.ps.length cp] 53)).alloc (.cells #[.pointer none, .slice none 0 0] 81)) w2 := b2.mono (by rw [hz2]; omega)
  have HW := vwrite_any 12 1 rfl n x _ w2 (w.heap.size + 1) (w.heap.size + 1) [] (hRd.below b3) (hbl.below b2) (by simpa using hlen) (by omega)
  have HB2 := Lib.hid (HB1.out.trans (b3.mono (by omega)))
  clear hRd hbl HN b2 b3 h hb0 hb1 hz1 hz2
  cases hok : rdOk 12 x with
  | false =>
    rw [hok] at HW
    have HF := Lib.hid (show vtextB x = [] by rw [HU.out, hok]; rfl)
    clear hok
    go_wp2_with fail
    refine HW.mono ?_
    rintro e w3 ⟨rfl, _, q2, q3⟩
    go_wp2_with fail
    go_ret
    exact strBelow_mk (l := []) HF.out.symm (HB2.out.trans (q2.mono (by omega)))
  | true =>
    rw [hok] at HW
    have HF := Lib.hid (show vtextB x = vtxt 12 x by rw [HU.out, hok]; rfl)
    clear hok
    go_wp2_with fail
    refine HW.mono ?_
    rintro e w3 ⟨rfl, q1, q2, q3⟩
    have hq := q1 rfl
    have hs3 := q2.size
    have HS := string_any ([] ++ vtxt 12 x) hq (by omega)
    clear q1 hq q3
    go_wp2_with fail
    refine HS.mono ?_
    rintro e w4 ⟨rfl, b4⟩
    go_wp2_with fail
    go_ret
    exact strBelow_mk HF.out.symm (HB2.out.trans ((q2.trans b4).mono (by omega)))

end Go.Proofs.YtkfllppggjhhmaaGreatDoor
/-
  print's writer: whether a value may have a text that fits.
-/
namespace Go.Proofs.YtkfllppggjhhmaaGreatDoor
open Go.RowKit

/-- Nothing has changed but a block that is newer than the writer. -/
theorem Wk.aw {N R k q : Nat} {s : Ws} {w a b : World} (h : Wk N R k s w a) (hb : Aw q a.heap.size a b) (hq : w.heap.size ≤ q) (hNw : N ≤ w.heap.size) (hR : R < q) (hty : ∀ c fz, a.heap[q]? ≠ some (.cells c 5 fz)) : Wk N R k s w b := by
  have hBN : Below N a b := (hb.mono h.1.hN).below (by omega)
  have hbld : Bld 83 N R [.int .i64 (s.room : Int), .bool s.full, .int .i64 (k : Int)] (Lib.byteCells s.out) b := by
    have aux : ∀ p, BldAt 83 N R p [.int .i64 (s.room : Int), .bool s.full, .int .i64 (k : Int)] (Lib.byteCells s.out) a → BldAt 83 N R p [.int .i64 (s.room : Int), .bool s.full, .int .i64 (k : Int)] (Lib.byteCells s.out) b := by
      rintro p ⟨hB, v, hbk, hown, hne⟩
      refine ⟨hB, v, (hb.block R h.1.lt (by omega)).trans hbk, ⟨hown.1, ?_⟩, hne⟩
      rcases hown.2 with hn | ⟨g, cap, cur, fz, hv, hbg, hg, r⟩
      · exact .inl hn
      · have hgl : g < a.heap.size := (Array.getElem?_eq_some_iff.1 hg).1
        have hgq : g ≠ q := by
          intro e
          rw [e] at hg
          exact hty _ _ hg
        exact .inr ⟨g, cap, cur, fz, hv, hbg, (hb.block g hgl hgq).trans hg, r⟩
    exact h.1.bld.elim (fun x => .inl (aux _ x)) (fun x => .inr (aux _ x))
  refine ⟨⟨hbld, Nat.le_trans h.1.hN hb.size, h.1.rm, h.1.hk, mx_below h.1.mx hBN⟩, h.2.1.trans hBN, ?_⟩
  exact fun j o hj hjR hjT => by
    have h1 := h.2.2 j o hj hjR hjT
    have h2 : j < w.heap.size := (Array.getElem?_eq_some_iff.1 hj).1
    exact (hb.block j (by have := h.size; omega) (by omega)).trans h1

def MfAns (q : Nat) (o : Option Nat) (w : World) (e : Ending) (w' : World) : Prop :=
  e = .returned (.bool o.isSome) ∧ Aw q w.heap.size w w' ∧ ∀ r, o = some r → w'.heap[q]? = some (.cells #[.int .i64 (r : Int)] 3 (0, 0))
def MfAt (f d : Nat) : Prop := ∀ (n : Nat) (x : JV) (v : Value) (w : World) (B q r : Nat), Rd w B n x v → B ≤ q → w.heap[q]? = some (.cells #[.int .i64 (r : Int)] 3 (0, 0)) → r ≤ 9223372036854775807 →
  Calls Tryz.prog 211 #[v, .int .i64 (d : Int), .pointer (some ⟨q, 0, none⟩)] w (MfAns q (mfV f x r) w)
theorem one_cell {w : World} {q : Nat} {v : Value} {T : TypeId} (h : w.heap[q]? = some (.cells #[v] T (0, 0))) : w.cell? ⟨q, 0, none⟩ = some v ∧ w.frozen? ⟨q, 0, none⟩ = false ∧ q < w.heap.size :=
  ⟨Lib.cell_of_heap h 0, Lib.frozen_of_heap h 0, (Array.getElem?_eq_some_iff.1 h).1⟩
theorem one_set {w : World} {q : Nat} {v : Value} {T : TypeId} (h : w.heap[q]? = some (.cells #[v] T (0, 0))) (u : Value) : (w.setCell ⟨q, 0, none⟩ u).heap[q]? = some (.cells #[u] T (0, 0)) := Lib.heap_setCell_same h u

theorem mfs_le (F : JV → Nat → Option Nat) (hF : ∀ y r r', F y r = some r' → r' ≤ r) : ∀ (ps : List JV) (r r' : Nat), mfs F ps r = some r' → r' ≤ r
  | [], r, r', h => by injection h with h; omega
  | p :: ps, r, r', h => by
    unfold mfs at h
    cases hp : F p r with
    | none => rw [hp] at h; cases h
    | some r2 =>
      rw [hp] at h
      have h1 := mfs_le F hF ps r2 r' h
      have h2 := hF _ _ _ hp
      omega
theorem mfV_le : ∀ (f : Nat) (y : JV) (r r' : Nat), mfV f y r = some r' → r' ≤ r
  | 0, _, _, _, h => by cases h
  | f + 1, y, r, r', h => by
    unfold mfV at h
    split at h
    · cases h
    · have := mfs_le _ (mfV_le f) _ _ _ h
      omega

theorem mf_set {w : World} {q : Nat} {v u : Value} {T : TypeId} {o : Obj} (h : w.heap[q]? = some (.cells #[v] T (0, 0))) : Aw q w.heap.size w ((w.setCell ⟨q, 0, none⟩ u).alloc o) ∧ ((w.setCell ⟨q, 0, none⟩ u).alloc o).heap[q]? = some (.cells #[u] T (0, 0)) ∧ ((w.setCell ⟨q, 0, none⟩ u).alloc o).cell? ⟨q, 0, none⟩ = some u := by
  have hl := (one_cell h).2.2
  have h1 : ((w.setCell ⟨q, 0, none⟩ u).alloc o).heap[q]? = some (.cells #[u] T (0, 0)) := (Below.heap_alloc _ _ _ (by simpa [World.setCell] using hl)).trans (one_set h u)
  exact ⟨((Aw.refl q w.heap.size w).set (j := 0) u).alloc (by simp [World.setCell]) o, h1, Lib.cell_of_heap h1 0⟩

set_option maxHeartbeats 4000000 in
set_option maxRecDepth 100000 in
theorem mayFit_step (f d : Nat) (hd : d + f = 14) (ih : ∀ f', f = f' + 1 → MfAt f' (d + 1)) : MfAt f d := by
  intro n x v w B q r h hBq hq hr
  match n, h with
  | n + 1, h =>
  obtain ⟨an, cn, ap, cp, rfl, ⟨z1, z2, z3, z4, z5⟩, hs, hrow⟩ := h
  have hql := (one_cell hq).2.2
  have HQA := Lib.hid (show (w.alloc (.cells #[.int .i64 x.k, .string x.s, .slice an x.ns.length cn, .slice ap x.ps.length cp] 53)).heap[q]? = some (.cells #[.int .i64 (r : Int)] 3 (0, 0)) from (Below.heap_alloc _ _ _ hql).trans hq)
  obtain ⟨q0, qf, ql⟩ := one_cell HQA.out
  have HA0 := Lib.hid ((Aw.refl q w.heap.size w).alloc (Nat.le_refl _) (.cells #[.int .i64 x.k, .string x.s, .slice an x.ns.length cn, .slice ap x.ps.length cp] 53))
  have HROW := Lib.hid hrow
  have HIH := Lib.hid ih
  have HST := Lib.hid (fun u => mf_set (u := u) (o := (.cells #[.int .i64 x.k, .string x.s, .slice an x.ns.length cn, .slice ap x.ps.length cp] 53)) hq)
  clear hrow hs ih hq
  by_cases hr0 : r = 0
  · subst hr0
    have HE := Lib.hid (show mfV f x 0 = none by cases f <;> rfl)
    have hw1 : IntKind.i64.wrap (((0 : Nat) : Int) - 1) = -1 := by decide
    have hw2 : IntKind.i64.wrap (-1) = -1 := by decide
    obtain ⟨HA1, HQ1, g0⟩ := HST.out (.int .i64 (-1))
    have HA1 := Lib.hid HA1
    clear HQ1
    go_enter Tryz.func211, Tryz.ntmps211
    go_wp2_with fail
    go_ret
    rw [HE.out]
    exact ⟨rfl, HA1.out, fun r h => by cases h⟩
  · have hw1 : IntKind.i64.wrap ((r : Int) - 1) = ((r - 1 : Nat) : Int) := by rw [IntWalk.i64_in _ (by omega)]; omega
    have hlt0 : decide (((r - 1 : Nat) : Int) < 0) = false := decide_eq_false (by omega)
    obtain ⟨HA1, HQ1, g0⟩ := HST.out (.int .i64 ((r - 1 : Nat) : Int))
    have HA1 := Lib.hid HA1
    have HQ1 := Lib.hid HQ1
    match f, hd, HIH with
    | 0, hd, HIH =>
      have h13 : decide ((13 : Int) < (d : Int)) = true := decide_eq_true (by omega)
      have h13' : decide (13 < d) = true := decide_eq_true (by omega)
      have HE := Lib.hid (show mfV 0 x r = none from rfl)
      clear HROW HIH
      generalize r - 1 = r1 at *
      go_enter Tryz.func211, Tryz.ntmps211
      go_wp2_with fail
      go_ret
      rw [HE.out]
      exact ⟨rfl, HA1.out, fun r h => by cases h⟩
    | f + 1, hd, HIH =>
      have h13 : decide ((13 : Int) < (d : Int)) = false := decide_eq_false (by omega)
      have h13' : decide (13 < d) = false := decide_eq_false (by omega)
      have HE := Lib.hid (show mfV (f + 1) x r = mfs (mfV f) x.ps (r - 1) by show (if r = 0 then none else _) = _; rw [if_neg hr0])
      have hr1 : r - 1 ≤ 9223372036854775807 := by omega
      have hwd : IntKind.i64.wrap ((d : Int) + 1) = ((d + 1 : Nat) : Int) := by rw [IntWalk.i64_in _ (by omega)]; omega
      have HF := Lib.hid (HIH.out f rfl)
      generalize r - 1 = r1 at *
      generalize mfV (f + 1) x r = RES at *
      clear HIH
      go_enter Tryz.func211, Tryz.ntmps211
      go_wp2_with fail
      go_loopg [8, 25] x.ps.length (fun j _ v25 wr => ∃ (i r' : Nat), v25 = .int .i64 (i : Int) ∧ i ≤ x.ps.length ∧ j = x.ps.length - i ∧ Hid (RES = mfs (mfV f) (x.ps.drop i) r') ∧ Aw q w.heap.size w wr ∧ wr.heap[q]? = some (.cells #[.int .i64 (r' : Int)] 3 (0, 0)) ∧ r' ≤ 9223372036854775807)
      case atStart => exact ⟨0, r1, rfl, Nat.zero_le _, rfl, Lib.hid (by rw [List.drop_zero]; exact HE.out), HA1.out, HQ1.out, hr1⟩
      case round =>
        obtain ⟨i, r', rfl, hi, hj, HS, ha, hq, hr'⟩ := hrel
        have hw : IntKind.i64.wrap ((i : Int) + 1) = (i : Int) + 1 := IntWalk.i64_in _ (by omega)
        have HA := Lib.hid ha
        have HQ := Lib.hid hq
        clear hq q0 qf g0
        by_cases hlt : i < x.ps.length
        · have hd1 : decide ((i : Int) < (x.ps.length : Int)) = true := decide_eq_true (by omega)
          have hd2 : decide (i < x.ps.length) = true := decide_eq_true hlt
          have hicp : i < cp := by omega
          have HS2 := Lib.hid (show RES = match mfV f x.ps[i] r' with
              | none => none
              | some r'' => mfs (mfV f) (x.ps.drop (i + 1)) r'' by rw [HS.out, List.drop_eq_getElem_cons hlt]; rfl)
          have hrow := HROW.out.keep (w' := wr) (fun b o hb => ha.cell (by omega) (by omega))
          obtain ⟨b', off, y, an', cn', ap', cp', HY, rfl, hb', hRr, g0, g1, g2, g3⟩ := hrow.elem hlt (Below.refl _ _)
          rw [HY.out] at HS2
          have hsw := ha.size
          have hbl' : b' < wr.heap.size := by omega
          have HW1 := Lib.hid (ha.alloc hsw (.cells #[.int .i64 y.k, .string y.s, .slice an' y.ns.length cn', .slice ap' y.ps.length cp'] 53))
          have hqa : (wr.alloc (.cells #[.int .i64 y.k, .string y.s, .slice an' y.ns.length cn', .slice ap' y.ps.length cp'] 53)).heap[q]? = some (.cells #[.int .i64 (r' : Int)] 3 (0, 0)) := (Below.heap_alloc _ _ _ (by omega)).trans HQ.out
          have HCL := HF.out n y _ (wr.alloc (.cells #[.int .i64 y.k, .string y.s, .slice an' y.ns.length cn', .slice ap' y.ps.length cp'] 53)) B q r' (hRr.below ((Below.refl _ _).alloc (by omega) _)) hBq hqa hr'
          have hszw : (wr.alloc (.cells #[.int .i64 y.k, .string y.s, .slice an' y.ns.length cn', .slice ap' y.ps.length cp'] 53)).heap.size = wr.heap.size + 1 := by simp
          have HSZ := Lib.hid hszw
          clear ha hrow hRr hqa HY hszw
          cases hmf : mfV f y r' with
          | none =>
            have HE2 := Lib.hid (show RES = none by rw [HS2.out, hmf])
            rw [hmf] at HCL
            clear hmf
            go_wp2_with fail
            refine HCL.mono ?_
            rintro e w2 ⟨rfl, ha2, -⟩
            have HA2 := Lib.hid (HW1.out.trans (ha2.mono (by rw [HSZ.out]; omega)))
            clear ha2 HCL
            go_wp2_with fail
            go_ret
            rw [HE2.out]
            exact ⟨rfl, HA2.out, fun r h => by cases h⟩
          | some r2 =>
            have HE2 := Lib.hid (show RES = mfs (mfV f) (x.ps.drop (i + 1)) r2 by rw [HS2.out, hmf])
            rw [hmf] at HCL
            have hle := Lib.hid (mfV_le f y r' r2 hmf)
            clear hmf
            go_wp2_with fail
            refine HCL.mono ?_
            rintro e w2 ⟨rfl, ha2, hq2⟩
            have HA2 := Lib.hid (HW1.out.trans (ha2.mono (by rw [HSZ.out]; omega)))
            have HQ2 := Lib.hid (hq2 r2 rfl)
            clear ha2 HCL hq2
            go_wp2_with fail
            go_roundg (x.ps.length - (i + 1))
            case measure => omega
            case rel => exact ⟨i + 1, r2, by simp, by omega, rfl, HE2, HA2.out, HQ2.out, Nat.le_trans hle.out hr'⟩
        · have hd1 : decide ((i : Int) < (x.ps.length : Int)) = false := decide_eq_false (by omega)
          have hd2 : decide (i < x.ps.length) = false := decide_eq_false hlt
          have HE2 := Lib.hid (show RES = some r' by rw [HS.out, List.drop_of_length_le (by omega)]; rfl)
          clear ha
          go_wp2_with fail
          go_ret
          rw [HE2.out]
          exact ⟨rfl, HA.out, fun r h => by injection h with h; rw [← h]; exact HQ.out⟩
theorem mayFit_any : ∀ (f d : Nat), d + f = 14 → MfAt f d
  | 0, d, h => mayFit_step 0 d h fun _ e => by cases e
  | f + 1, d, h => mayFit_step (f + 1) d h fun f' e => by injection e with e; subst e; exact mayFit_any f (d + 1) (by omega)

end Go.Proofs.YtkfllppggjhhmaaGreatDoor
