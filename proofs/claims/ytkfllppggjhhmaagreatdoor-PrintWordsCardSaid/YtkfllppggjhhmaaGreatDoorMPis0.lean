/-
  print's writer: documents; what Sels answers.
-/
import Derived.Test.YtkfllppggjhhmaaGreatDoorMPwe
import Derived.Test.YtkfllppggjhhmaaGreatDoorMPm2
import Derived.Deep.LoopGhost
import Derived.Deep.QuietTactic
import Derived.Test.YtkfllppggjhhmaaGreatDoorMV2
namespace Go.Proofs.YtkfllppggjhhmaaGreatDoor
open Go.RowKit
set_option linter.unusedVariables false

theorem len_pos {α : Type} (l : List α) : decide ((0 : Int) < (l.length : Int)) = !l.isEmpty := by
  cases l with
  | nil => rfl
  | cons a r => rw [decide_eq_true (by rw [List.length_cons]; omega)]; rfl
theorem len_posN {α : Type} (l : List α) : decide (0 < l.length) = !l.isEmpty := by
  cases l with
  | nil => rfl
  | cons a r => rw [decide_eq_true (by rw [List.length_cons]; omega)]; rfl
/-- A document's sets are at most n deep. -/
def dpD (n : Nat) (x : DocT) : Bool := x.ops.all (fun o => dpS n o.sels) && x.frags.all (fun f => dpS n f.sels)
set_option maxHeartbeats 3000000 in
set_option maxRecDepth 100000 in
theorem pDocW_0 {N R k : Nat} {n : Nat} {D : Nat → Prop} {x : DocT} {v : Value} {s : Ws} (w : World) (hn : n < 100) (hk0 : k = 0) (h : Wv N R k s w) (hE : DocE w D x v) (hdp : dpD n x = true) (hD : ∀ b, D b → b < N) (hlen : (docW x s).out.length ≤ 140737488355328) (hmid : (!x.ops.isEmpty && !x.frags.isEmpty) = false) : Calls Tryz.prog 33 #[.pointer (some ⟨R, 0, none⟩), v] w (WAns N R k (docW x s) w) := by
  obtain ⟨vo, vf, rfl, ho, hf⟩ := hE
  obtain ⟨vo, co, rfl⟩ := ho.shape
  obtain ⟨vf, cf, rfl⟩ := hf.shape
  have HO := Lib.hid ho
  have HFR := Lib.hid hf
  have HDD := Lib.hid hD
  have HP1 := Lib.hid (List.all_eq_true.1 (Bool.and_eq_true_iff.1 hdp).1)
  have HP2 := Lib.hid (List.all_eq_true.1 (Bool.and_eq_true_iff.1 hdp).2)
  subst hk0
  have HM := Lib.hid (show docW x s = svW fragW [32] true x.frags (svW opW [32] true x.ops s) by unfold docW midW; rw [hmid]; rfl)
  have hl5 : (svW fragW [32] true x.frags (svW opW [32] true x.ops s)).out.length ≤ 140737488355328 := by rw [← HM.out]; exact hlen
  have hl2 : (svW opW [32] true x.ops s).out.length ≤ 140737488355328 := Nat.le_trans (svW_k (I := Mo (svW opW [32] true x.ops s)) (mo_wr _) (fragW_k (mo_wr _)) _ _ _ _ (Nat.le_refl _)) hl5
  have hl1 := hl2
  have HL := Lib.hid (And.intro hl1 (And.intro hl2 hl5))
  have hb1 : decide ((0 : Int) < (x.ops.length : Int)) = !x.ops.isEmpty := len_pos x.ops
  have hb2 : decide ((0 : Int) < (x.frags.length : Int)) = !x.frags.isEmpty := len_pos x.frags
  have hb3 : decide (0 < x.ops.length) = !x.ops.isEmpty := len_posN x.ops
  have hb4 : decide (0 < x.frags.length) = !x.frags.isEmpty := len_posN x.frags
  have HW0 := Lib.hid ((Wk.refl h).alloc (.cells #[.slice vo x.ops.length co, .slice vf x.frags.length cf] 25))
  have HB0 := Lib.hid (show (w.alloc (.cells #[.slice vo x.ops.length co, .slice vf x.frags.length cf] 25)).heap[w.heap.size]? = some (.cells #[.slice vo x.ops.length co, .slice vf x.frags.length cf] 25 (0, 0)) from heap_alloc_new _ _)
  have hlR := h.lt
  have hbR : w.heap.size ≠ R := by omega
  clear h ho hf hdp hD hlen hl1 hl2 hl5
  generalize docW x s = RES at *
  cases hq1 : x.ops.isEmpty <;> cases hq2 : x.frags.isEmpty <;> rw [hq1] at hb1 hb3 hmid <;> rw [hq2] at hb2 hb4 hmid <;> (first | exact absurd hmid (by decide) | skip)
  all_goals
    clear hmid
    show Calls Tryz.prog 33 #[.pointer (some ⟨R, 0, none⟩), .agg #[.slice vo x.ops.length co, .slice vf x.frags.length cf]] w _
    go_enter Tryz.func33, Tryz.ntmps33
    have HC := svOp_any opW ⟨#[32]⟩ _ HW0.out.1 (RowD.step opOk (fun _ h => h) (fun b o hb => World.cell?_of_block (a := ⟨b, o, none⟩) (HW0.out.2.1.block b (HDD.out b hb))) HO.out) HDD.out (fun x hx s' cs W hv hb hE hl => pOpW_any (n := n) W hn rfl hv hE (HP1.out x hx) HDD.out hl) (fun s0 x s' h => opW_k (mo_wr s0) x s' h) HL.out.1
    go_wp2_with fail
    refine HC.mono ?_
    rintro e w1 ⟨rfl, hk⟩
    have HW1 : Hid (Wk N R 0 (svW opW [32] true x.ops s) w w1) := Lib.hid (HW0.out.trans hk)
    have HB1 := Lib.hid (hk.box HB0.out (by decide) hbR)
    obtain ⟨q0, q1, qf, hbl⟩ := bk2 HB1.out
    clear hk
    clear HC
    have HC := svFrag_any fragW ⟨#[32]⟩ _ HW1.out.1 (RowD.step fragOk (fun _ h => h) (fun b o hb => World.cell?_of_block (a := ⟨b, o, none⟩) (HW1.out.2.1.block b (HDD.out b hb))) HFR.out) HDD.out (fun x hx s' cs W hv hb hE hl => pFragW_any (n := n) W hn rfl hv hE (HP2.out x hx) HDD.out hl) (fun s0 x s' h => fragW_k (mo_wr s0) x s' h) HL.out.2.2
    go_wp2_with fail
    refine HC.mono ?_
    rintro e w2 ⟨rfl, hk⟩
    have HW2 : Hid (Wk N R 0 (svW fragW [32] true x.frags (svW opW [32] true x.ops s)) w w2) := Lib.hid (HW1.out.trans hk)
    have HB2 := Lib.hid (hk.box HB1.out (by decide) hbR)
    clear q0 q1 qf hbl
    obtain ⟨q0, q1, qf, hbl⟩ := bk2 HB2.out
    clear hk
    clear HC
    go_wp2_with fail
    go_end0
    rw [HM.out]
    exact ⟨rfl, HW2.out⟩

set_option maxHeartbeats 3000000 in
set_option maxRecDepth 100000 in
theorem pDocW_1 {N R k : Nat} {n : Nat} {D : Nat → Prop} {x : DocT} {v : Value} {s : Ws} (w : World) (hn : n < 100) (hk0 : k = 0) (h : Wv N R k s w) (hE : DocE w D x v) (hdp : dpD n x = true) (hD : ∀ b, D b → b < N) (hlen : (docW x s).out.length ≤ 140737488355328) (hmid : (!x.ops.isEmpty && !x.frags.isEmpty) = true) : Calls Tryz.prog 33 #[.pointer (some ⟨R, 0, none⟩), v] w (WAns N R k (docW x s) w) := by
  obtain ⟨vo, vf, rfl, ho, hf⟩ := hE
  obtain ⟨vo, co, rfl⟩ := ho.shape
  obtain ⟨vf, cf, rfl⟩ := hf.shape
  have HO := Lib.hid ho
  have HFR := Lib.hid hf
  have HDD := Lib.hid hD
  have HP1 := Lib.hid (List.all_eq_true.1 (Bool.and_eq_true_iff.1 hdp).1)
  have HP2 := Lib.hid (List.all_eq_true.1 (Bool.and_eq_true_iff.1 hdp).2)
  subst hk0
  have HM := Lib.hid (show docW x s = svW fragW [32] true x.frags (wrs [[32]] (svW opW [32] true x.ops s)) by unfold docW midW; rw [hmid]; rfl)
  have hl5 : (svW fragW [32] true x.frags (wrs [[32]] (svW opW [32] true x.ops s))).out.length ≤ 140737488355328 := by rw [← HM.out]; exact hlen
  have hl2 : (wrs [[32]] (svW opW [32] true x.ops s)).out.length ≤ 140737488355328 := Nat.le_trans (svW_k (I := Mo (wrs [[32]] (svW opW [32] true x.ops s))) (mo_wr _) (fragW_k (mo_wr _)) _ _ _ _ (Nat.le_refl _)) hl5
  have hl1 : (svW opW [32] true x.ops s).out.length ≤ 140737488355328 := Nat.le_trans (wrs_k (I := Mo (svW opW [32] true x.ops s)) (mo_wr _) [[32]] _ (Nat.le_refl _)) hl2
  have HL := Lib.hid (And.intro hl1 (And.intro hl2 hl5))
  have hb1 : decide ((0 : Int) < (x.ops.length : Int)) = !x.ops.isEmpty := len_pos x.ops
  have hb2 : decide ((0 : Int) < (x.frags.length : Int)) = !x.frags.isEmpty := len_pos x.frags
  have hb3 : decide (0 < x.ops.length) = !x.ops.isEmpty := len_posN x.ops
  have hb4 : decide (0 < x.frags.length) = !x.frags.isEmpty := len_posN x.frags
  have HW0 := Lib.hid ((Wk.refl h).alloc (.cells #[.slice vo x.ops.length co, .slice vf x.frags.length cf] 25))
  have HB0 := Lib.hid (show (w.alloc (.cells #[.slice vo x.ops.length co, .slice vf x.frags.length cf] 25)).heap[w.heap.size]? = some (.cells #[.slice vo x.ops.length co, .slice vf x.frags.length cf] 25 (0, 0)) from heap_alloc_new _ _)
  have hlR := h.lt
  have hbR : w.heap.size ≠ R := by omega
  clear h ho hf hdp hD hlen hl1 hl2 hl5
  generalize docW x s = RES at *
  cases hq1 : x.ops.isEmpty <;> cases hq2 : x.frags.isEmpty <;> rw [hq1] at hb1 hb3 hmid <;> rw [hq2] at hb2 hb4 hmid <;> (first | exact absurd hmid (by decide) | skip)
  all_goals
    clear hmid
    show Calls Tryz.prog 33 #[.pointer (some ⟨R, 0, none⟩), .agg #[.slice vo x.ops.length co, .slice vf x.frags.length cf]] w _
    go_enter Tryz.func33, Tryz.ntmps33
    have HC := svOp_any opW ⟨#[32]⟩ _ HW0.out.1 (RowD.step opOk (fun _ h => h) (fun b o hb => World.cell?_of_block (a := ⟨b, o, none⟩) (HW0.out.2.1.block b (HDD.out b hb))) HO.out) HDD.out (fun x hx s' cs W hv hb hE hl => pOpW_any (n := n) W hn rfl hv hE (HP1.out x hx) HDD.out hl) (fun s0 x s' h => opW_k (mo_wr s0) x s' h) HL.out.1
    go_wp2_with fail
    refine HC.mono ?_
    rintro e w1 ⟨rfl, hk⟩
    have HW1 : Hid (Wk N R 0 (svW opW [32] true x.ops s) w w1) := Lib.hid (HW0.out.trans hk)
    have HB1 := Lib.hid (hk.box HB0.out (by decide) hbR)
    obtain ⟨q0, q1, qf, hbl⟩ := bk2 HB1.out
    clear hk
    clear HC
    have hT := txOne (v := ⟨#[32]⟩) HW1.out
    have HCW := write_any (l := [⟨#[32]⟩]) (cap := 1) _ hT.1.1 hT.2 (show 1 ≤ 100 by decide) (Nat.le_refl _) HL.out.2.1
    have HCW : Calls Tryz.prog 69 #[.pointer (some ⟨R, 0, none⟩), .slice (some ⟨w1.heap.size, 0, none⟩) 1 1] _ _ := HCW
    have HT1 := Lib.hid hT.1
    clear hT
    go_wp2_with fail
    refine HCW.mono ?_
    rintro e w2 ⟨rfl, hk⟩
    have HW2 : Hid (Wk N R 0 (wrs [[32]] (svW opW [32] true x.ops s)) w w2) := Lib.hid (HW1.out.trans (HT1.out.trans hk))
    have HB2 := Lib.hid ((HT1.out.trans hk).box HB1.out (by decide) hbR)
    clear q0 q1 qf hbl
    obtain ⟨q0, q1, qf, hbl⟩ := bk2 HB2.out
    clear hk
    clear HCW HT1
    have HC := svFrag_any fragW ⟨#[32]⟩ _ HW2.out.1 (RowD.step fragOk (fun _ h => h) (fun b o hb => World.cell?_of_block (a := ⟨b, o, none⟩) (HW2.out.2.1.block b (HDD.out b hb))) HFR.out) HDD.out (fun x hx s' cs W hv hb hE hl => pFragW_any (n := n) W hn rfl hv hE (HP2.out x hx) HDD.out hl) (fun s0 x s' h => fragW_k (mo_wr s0) x s' h) HL.out.2.2
    go_wp2_with fail
    refine HC.mono ?_
    rintro e w3 ⟨rfl, hk⟩
    have HW3 : Hid (Wk N R 0 (svW fragW [32] true x.frags (wrs [[32]] (svW opW [32] true x.ops s))) w w3) := Lib.hid (HW2.out.trans hk)
    have HB3 := Lib.hid (hk.box HB2.out (by decide) hbR)
    clear q0 q1 qf hbl
    obtain ⟨q0, q1, qf, hbl⟩ := bk2 HB3.out
    clear hk
    clear HC
    go_wp2_with fail
    go_end0
    rw [HM.out]
    exact ⟨rfl, HW3.out⟩

set_option maxHeartbeats 3000000 in
set_option maxRecDepth 100000 in
theorem pDocW_any {N R k : Nat} {n : Nat} {D : Nat → Prop} {x : DocT} {v : Value} {s : Ws} (w : World) (hn : n < 100) (hk0 : k = 0) (h : Wv N R k s w) (hE : DocE w D x v) (hdp : dpD n x = true) (hD : ∀ b, D b → b < N) (hlen : (docW x s).out.length ≤ 140737488355328) : Calls Tryz.prog 33 #[.pointer (some ⟨R, 0, none⟩), v] w (WAns N R k (docW x s) w) := by
  cases hmid : (!x.ops.isEmpty && !x.frags.isEmpty)
  · exact pDocW_0 w hn hk0 h hE hdp hD hlen hmid
  · exact pDocW_1 w hn hk0 h hE hdp hD hlen hmid

set_option maxHeartbeats 3000000 in
set_option maxRecDepth 100000 in
theorem pText_any {N R k : Nat} {s : Ws} (w : World) (h : Wv N R k s w) : Calls Tryz.prog 34 #[.pointer (some ⟨R, 0, none⟩)] w fun e w' => e = .returned (.string ⟨(outW s).toArray⟩) ∧ Below N w w' := by
  obtain ⟨-, c3, -, -, hRl⟩ := h.cells
  have HS := string_any s.out h.bld h.hN
  have HM := Lib.hid (show outW s = if s.full then [] else s.out from rfl)
  clear h
  cases hf : s.full with
  | true =>
    rw [hf] at c3 HM
    clear hf HS
    generalize outW s = RES at *
    go_enter Tryz.func34, Tryz.ntmps34
    go_wp2_with fail
    go_ret
    rw [HM.out]
    exact ⟨rfl, Below.refl _ _⟩
  | false =>
    rw [hf] at c3 HM
    clear hf
    generalize outW s = RES at *
    go_enter Tryz.func34, Tryz.ntmps34
    go_wp2_with fail
    refine HS.mono ?_
    rintro e w2 ⟨rfl, hb⟩
    have HB := Lib.hid hb
    clear hb HS
    go_wp2_with fail
    go_ret
    rw [HM.out]
    exact ⟨rfl, HB.out⟩

/-- A writer that has written nothing. -/
theorem wv_new (w : World) (r : Nat) (hr : r ≤ 9223372036854775807) (hm : ∃ m, w.cell? ⟨0, 0, none⟩ = some (.int .i64 m)) : Wv w.heap.size w.heap.size 0 ⟨[], r, false⟩ (w.alloc (.cells #[.pointer none, .slice none 0 0, .int .i64 (r : Int), .bool false, .int .i64 0] 83)) := by
  have h := Bld.fresh 83 [.int .i64 (r : Int), .bool false, .int .i64 0] w
  obtain ⟨m, hm⟩ := hm
  have h0 : 0 < w.heap.size := cell_lt hm
  exact ⟨h, by simp, hr, by decide, mx_below ⟨h0, m, hm⟩ ((Below.refl _ w).alloc (Nat.le_refl _) _)⟩

set_option maxHeartbeats 3000000 in
set_option maxRecDepth 100000 in
theorem printSels_any {n : Nat} {D : Nat → Prop} {xs : List SelT} {v : Value} (w : World) (hn : n < 100) (hr : RowD (SelE n) 7 w D xs v) (hD : ∀ b, D b → b < w.heap.size) (hm : ∃ m, w.cell? ⟨0, 0, none⟩ = some (.int .i64 m)) (hlen : (setW 100 xs ⟨[], 9223372036854775807, false⟩).out.length ≤ 140737488355328) :
    Calls Tryz.prog 20 #[v] w (StrBelow w (selsT xs)) := by
  have HB := Lib.hid ((Below.refl w.heap.size w).alloc (Nat.le_refl _) (.cells #[.pointer none, .slice none 0 0, .int .i64 ((9223372036854775807 : Nat) : Int), .bool false, .int .i64 0] 83))
  have HV := wv_new w 9223372036854775807 (Nat.le_refl _) hm
  have HC := pSetW_any n w.heap.size w.heap.size 0 100 D xs v _ _ hn (by omega) HV (RowD.step (selOk n) (fun _ h => h) (fun b o hb => World.cell?_of_block (a := ⟨b, o, none⟩) (HB.out.block b (hD b hb))) hr) hD hlen
  have HM := Lib.hid (show selsT xs = outW (setW 100 xs ⟨[], 9223372036854775807, false⟩) from rfl)
  obtain ⟨a, cap, rfl⟩ := hr.shape
  generalize setW 100 xs ⟨[], 9223372036854775807, false⟩ = s2 at *
  generalize selsT xs = RES at *
  clear hr hD hm hlen HV
  rw [show ((9223372036854775807 : Nat) : Int) = 9223372036854775807 from rfl] at HC HB
  go_enter Tryz.func20, Tryz.ntmps20
  go_wp2_with fail
  refine HC.mono ?_
  rintro e w2 ⟨rfl, hk2⟩
  have HX := pText_any w2 hk2.1
  have HB2 := Lib.hid (HB.out.trans hk2.2.1)
  clear hk2 HC
  go_wp2_with fail
  refine HX.mono ?_
  rintro e w3 ⟨rfl, hb3⟩
  have HB3 := Lib.hid (HB2.out.trans hb3)
  clear hb3 HX
  go_wp2_with fail
  go_ret
  exact strBelow_mk HM.out.symm HB3.out

end Go.Proofs.YtkfllppggjhhmaaGreatDoor
/-
  print.isSame: values in rows.
-/
namespace Go.Proofs.YtkfllppggjhhmaaGreatDoor
open Go.RowKit
set_option linter.unusedVariables false

/-- What a comparison answers: whether it is so. -/
def EqAns (p : Prop) (w : World) (e : Ending) (w' : World) : Prop := ∃ r : Bool, e = .returned (.bool r) ∧ (r = true ↔ p) ∧ Below w.heap.size w w'
/-- A value in four cells. -/
def ValE (n : Nat) : ElemR JV := fun w D x cs => ∃ c0 c1 c2 c3, cs = [c0, c1, c2, c3] ∧ RdD w D n x (.agg #[c0, c1, c2, c3])
theorem valOk (n : Nat) : ElemOk (ValE n) 4 := by
  refine ⟨fun hD hk h => ?_, fun h => ?_, fun h => ?_⟩
  · obtain ⟨c0, c1, c2, c3, e, hR⟩ := h
    exact ⟨c0, c1, c2, c3, e, RdD.step hD hk hR⟩
  · obtain ⟨c0, c1, c2, c3, rfl, _⟩ := h; rfl
  · obtain ⟨c0, c1, c2, c3, rfl, hR⟩ := h
    obtain ⟨o0, o1, o2, o3⟩ := rd_one hR
    intro u hu
    simp at hu
    rcases hu with rfl | rfl | rfl | rfl
    · exact o0
    · exact o1
    · exact o2
    · exact o3
theorem rows_row {w : World} {D : Nat → Prop} {n : Nat} {ap : Option Addr} {cp : Nat} {ps : List JV} (h : Rows4D w D (RdD w D n) ap ps) (z3 : ps.length ≤ 2000000) (z5 : ps.length ≤ cp) : RowD (ValE n) 4 w D ps (.slice ap ps.length cp) := by
  refine ⟨ap, cp, rfl, z3, z5, fun hp => ?_⟩
  obtain ⟨b, off, e, hb, hc⟩ := h hp
  refine ⟨b, off, e, hb, fun i x hx => ?_⟩
  obtain ⟨c0, c1, c2, c3, h4, hR⟩ := hc i x hx
  refine ⟨[c0, c1, c2, c3], rfl, fun k u hu => ?_, c0, c1, c2, c3, rfl, hR⟩
  match k, hu with
  | 0, hu => simp at hu; subst hu; exact h4.1
  | 1, hu => simp at hu; subst hu; exact h4.2.1
  | 2, hu => simp at hu; subst hu; exact h4.2.2.1
  | 3, hu => simp at hu; subst hu; exact h4.2.2.2
theorem jv_eq {x y : JV} : x = y ↔ x.k = y.k ∧ x.s = y.s ∧ x.ns = y.ns ∧ x.ps = y.ps := by
  cases x; cases y
  constructor
  · intro h; injection h with h1 h2 h3 h4; exact ⟨h1, h2, h3, h4⟩
  · rintro ⟨h1, h2, h3, h4⟩
    simp only [JV.k, JV.s, JV.ns, JV.ps] at h1 h2 h3 h4
    rw [h1, h2, h3, h4]

set_option maxHeartbeats 3000000 in
set_option maxRecDepth 100000 in
theorem eqfVal_any {n1 n2 : Nat} {D1 D2 : Nat → Prop} {xs ys : List JV} {v1 v2 : Value} (w : World) (h1 : RowD (ValE n1) 4 w D1 xs v1) (h2 : RowD (ValE n2) 4 w D2 ys v2) (hD1 : ∀ b, D1 b → b < w.heap.size) (hD2 : ∀ b, D2 b → b < w.heap.size)
    (hF : ∀ x ∈ xs, ∀ y ∈ ys, ∀ cs ds W, Below w.heap.size w W → (ValE n1) W D1 x cs → (ValE n2) W D2 y ds → Calls Tryz.prog 160 #[.agg cs.toArray, .agg ds.toArray] W (EqAns (x = y) W)) :
    Calls Tryz.prog 214 #[v1, v2, .func (.func 160) #[] #[]] w (EqAns (xs = ys) w) := by
  obtain ⟨a1, cap1, rfl, hx1, hcap1, hrow1⟩ := h1
  obtain ⟨a2, cap2, rfl, hx2, hcap2, hrow2⟩ := h2
  have HR1 := Lib.hid hrow1
  have HR2 := Lib.hid hrow2
  have HF := Lib.hid hF
  have HD1 := Lib.hid hD1
  have HD2 := Lib.hid hD2
  clear hrow1 hrow2 hF hD1 hD2
  by_cases hll : xs.length = ys.length
  · have HLL := Lib.hid hll
    rw [← hll] at hx2 hcap2 HR2 ⊢
    clear hll
    go_enter Tryz.func214, Tryz.ntmps214
    go_wp2_with fail
    go_loopg [7, 8, 9, 17] xs.length (fun j _ _ _ v17 wr => ∃ i : Nat, v17 = .int .i64 (i : Int) ∧ i ≤ xs.length ∧ j = xs.length - i ∧ Hid (xs.take i = ys.take i) ∧ Below w.heap.size w wr)
    case atStart => exact ⟨0, rfl, Nat.zero_le _, rfl, Lib.hid rfl, Below.refl _ _⟩
    case round =>
      obtain ⟨i, rfl, hi, hj, HT, hb⟩ := hrel
      have HB := Lib.hid hb
      have hw : IntKind.i64.wrap ((i : Int) + 1) = (i : Int) + 1 := IntWalk.i64_in _ (by omega)
      by_cases hlt : i < xs.length
      · have hd : decide ((i : Int) < (xs.length : Int)) = true := decide_eq_true (by omega)
        have hd2 : decide (i < xs.length) = true := decide_eq_true hlt
        have hlty : i < ys.length := by rw [← HLL.out]; exact hlt
        obtain ⟨g1, off1, rfl, hDg1, hel1⟩ := HR1.out (by omega)
        obtain ⟨g2, off2, rfl, hDg2, hel2⟩ := HR2.out (by omega)
        have hxi : xs[i]? = some xs[i] := List.getElem?_eq_getElem hlt
        have hyi : ys[i]? = some ys[i] := List.getElem?_eq_getElem hlty
        have hmx := List.getElem_mem hlt
        have hmy := List.getElem_mem hlty
        obtain ⟨cs, hcl1, hcsg1, hE1⟩ := hel1 i _ hxi
        obtain ⟨ds, hcl2, hcsg2, hE2⟩ := hel2 i _ hyi
        have HTK := Lib.hid (show xs[i] = ys[i] → xs.take (i + 1) = ys.take (i + 1) from fun h => by rw [List.take_add_one, List.take_add_one, HT.out, hxi, hyi, h])
        have HNE := Lib.hid (show xs[i] ≠ ys[i] → xs ≠ ys from fun h e => h (by
          have h3 : xs[i]? = ys[i]? := by rw [e]
          rw [hxi, hyi] at h3
          exact Option.some.inj h3))
        have hLHC := HF.out _ hmx _ hmy
        generalize xs[i] = x at *
        generalize ys[i] = y at *
        clear hxi hyi hmx hmy hlty
        obtain ⟨c0, c1, c2, c3, rfl, hR1⟩ := hE1
        obtain ⟨an1, cn1, ap1, cp1, hsh⟩ := hR1.shape
        obtain ⟨rfl, rfl, rfl, rfl⟩ := agg4_inj' hsh
        clear hsh
        obtain ⟨c0, c1, c2, c3, rfl, hR2⟩ := hE2
        obtain ⟨an2, cn2, ap2, cp2, hsh⟩ := hR2.shape
        obtain ⟨rfl, rfl, rfl, rfl⟩ := agg4_inj' hsh
        clear hsh
        have hgl1 : g1 < wr.heap.size := Nat.lt_of_lt_of_le (HD1.out g1 hDg1) hb.size
        have hgl2 : g2 < wr.heap.size := Nat.lt_of_lt_of_le (HD2.out g2 hDg2) hb.size
        have hg1c : ∀ o, wr.cell? ⟨g1, o, none⟩ = w.cell? ⟨g1, o, none⟩ := fun o => World.cell?_of_block (a := ⟨g1, o, none⟩) (hb.block g1 (HD1.out g1 hDg1))
        have hg2c : ∀ o, wr.cell? ⟨g2, o, none⟩ = w.cell? ⟨g2, o, none⟩ := fun o => World.cell?_of_block (a := ⟨g2, o, none⟩) (hb.block g2 (HD2.out g2 hDg2))
        have k0 : wr.cell? ⟨g1, off1 + i * 4, none⟩ = some (.int .i64 x.k) := (hg1c _).trans (hcsg1 0 _ rfl)
        have k1 : wr.cell? ⟨g1, off1 + i * 4 + 1, none⟩ = some (.string x.s) := (hg1c _).trans (hcsg1 1 _ rfl)
        have k2 : wr.cell? ⟨g1, off1 + i * 4 + 2, none⟩ = some (.slice an1 x.ns.length cn1) := (hg1c _).trans (hcsg1 2 _ rfl)
        have k3 : wr.cell? ⟨g1, off1 + i * 4 + 3, none⟩ = some (.slice ap1 x.ps.length cp1) := (hg1c _).trans (hcsg1 3 _ rfl)
        have j0 : wr.cell? ⟨g2, off2 + i * 4, none⟩ = some (.int .i64 y.k) := (hg2c _).trans (hcsg2 0 _ rfl)
        have j1 : wr.cell? ⟨g2, off2 + i * 4 + 1, none⟩ = some (.string y.s) := (hg2c _).trans (hcsg2 1 _ rfl)
        have j2 : wr.cell? ⟨g2, off2 + i * 4 + 2, none⟩ = some (.slice an2 y.ns.length cn2) := (hg2c _).trans (hcsg2 2 _ rfl)
        have j3 : wr.cell? ⟨g2, off2 + i * 4 + 3, none⟩ = some (.slice ap2 y.ps.length cp2) := (hg2c _).trans (hcsg2 3 _ rfl)
        have hicp1 : i < cap1 := by omega
        have hicp2 : i < cap2 := by omega
        have HW := Lib.hid ((hb.alloc hb.size (.cells #[.int .i64 x.k, .string x.s, .slice an1 x.ns.length cn1, .slice ap1 x.ps.length cp1] 53)).alloc (by have := hb.size; simp; omega) (.cells #[.int .i64 y.k, .string y.s, .slice an2 y.ns.length cn2, .slice ap2 y.ps.length cp2] 53))
        have hE1' : (ValE n1) ((wr.alloc (.cells #[.int .i64 x.k, .string x.s, .slice an1 x.ns.length cn1, .slice ap1 x.ps.length cp1] 53)).alloc (.cells #[.int .i64 y.k, .string y.s, .slice an2 y.ns.length cn2, .slice ap2 y.ps.length cp2] 53)) D1 x [.int .i64 x.k, .string x.s, .slice an1 x.ns.length cn1, .slice ap1 x.ps.length cp1] := (valOk n1).step (fun _ h => h) (fun b o hb' => World.cell?_of_block (a := ⟨b, o, none⟩) (HW.out.block b (HD1.out b hb'))) ⟨_, _, _, _, rfl, hR1⟩
        have hE2' : (ValE n2) ((wr.alloc (.cells #[.int .i64 x.k, .string x.s, .slice an1 x.ns.length cn1, .slice ap1 x.ps.length cp1] 53)).alloc (.cells #[.int .i64 y.k, .string y.s, .slice an2 y.ns.length cn2, .slice ap2 y.ps.length cp2] 53)) D2 y [.int .i64 y.k, .string y.s, .slice an2 y.ns.length cn2, .slice ap2 y.ps.length cp2] := (valOk n2).step (fun _ h => h) (fun b o hb' => World.cell?_of_block (a := ⟨b, o, none⟩) (HW.out.block b (HD2.out b hb'))) ⟨_, _, _, _, rfl, hR2⟩
        have HCL : Calls Tryz.prog 160 #[.agg #[.int .i64 x.k, .string x.s, .slice an1 x.ns.length cn1, .slice ap1 x.ps.length cp1], .agg #[.int .i64 y.k, .string y.s, .slice an2 y.ns.length cn2, .slice ap2 y.ps.length cp2]] ((wr.alloc (.cells #[.int .i64 x.k, .string x.s, .slice an1 x.ns.length cn1, .slice ap1 x.ps.length cp1] 53)).alloc (.cells #[.int .i64 y.k, .string y.s, .slice an2 y.ns.length cn2, .slice ap2 y.ps.length cp2] 53)) _ := hLHC [.int .i64 x.k, .string x.s, .slice an1 x.ns.length cn1, .slice ap1 x.ps.length cp1] [.int .i64 y.k, .string y.s, .slice an2 y.ns.length cn2, .slice ap2 y.ps.length cp2] _ HW.out hE1' hE2'
        have hszw : wr.heap.size ≤ ((wr.alloc (.cells #[.int .i64 x.k, .string x.s, .slice an1 x.ns.length cn1, .slice ap1 x.ps.length cp1] 53)).alloc (.cells #[.int .i64 y.k, .string y.s, .slice an2 y.ns.length cn2, .slice ap2 y.ps.length cp2] 53)).heap.size := by simp; omega
        clear hb hel1 hel2 hcsg1 hcsg2 hE1' hE2' hg1c hg2c hcl1 hcl2 hR1 hR2 hLHC
        have HSZ := Lib.hid (Nat.le_trans HB.out.size hszw)
        clear hszw
        go_wp2_with fail
        refine HCL.mono ?_
        rintro e w2 ⟨r, rfl, hr, hb2⟩
        have HB3 := Lib.hid (HW.out.trans (hb2.mono HSZ.out))
        clear hb2 HCL
        cases r with
        | true =>
          have HE := Lib.hid (HTK.out (hr.1 rfl))
          clear hr
          go_wp2_with fail
          go_roundg (xs.length - (i + 1))
          case measure => omega
          case rel => exact ⟨i + 1, by simp, by omega, rfl, HE, HB3.out⟩
        | false =>
          have HE := Lib.hid (HNE.out (fun h => by have := hr.2 h; cases this))
          clear hr
          go_wp2_with fail
          go_ret
          exact ⟨false, rfl, ⟨(fun h => by cases h), fun h => absurd h HE.out⟩, HB3.out⟩
      · have hd : decide ((i : Int) < (xs.length : Int)) = false := decide_eq_false (by omega)
        have hd2 : decide (i < xs.length) = false := decide_eq_false hlt
        have HE := Lib.hid (show xs = ys by
          have := HT.out
          rwa [List.take_of_length_le (by omega), List.take_of_length_le (by rw [← HLL.out]; omega)] at this)
        clear hb
        go_wp2_with fail
        go_ret
        exact ⟨true, rfl, ⟨fun _ => HE.out, fun _ => rfl⟩, HB.out⟩
  · have h1 : ((xs.length : Int) == (ys.length : Int)) = false := by rw [beq_eq_false_iff_ne]; omega
    have h2 : ((xs.length : Int) != (ys.length : Int)) = true := by unfold bne; rw [h1]; rfl
    have h3 : (xs.length == ys.length) = false := by rw [beq_eq_false_iff_ne]; omega
    have HE := Lib.hid (show xs ≠ ys from fun e => hll (by rw [e]))
    clear HR1 HR2 HF HD1 HD2
    go_enter Tryz.func214, Tryz.ntmps214
    go_wp2_with fail
    go_ret
    exact ⟨false, rfl, ⟨(fun h => by cases h), fun h => absurd h HE.out⟩, Below.refl _ _⟩

end Go.Proofs.YtkfllppggjhhmaaGreatDoor
