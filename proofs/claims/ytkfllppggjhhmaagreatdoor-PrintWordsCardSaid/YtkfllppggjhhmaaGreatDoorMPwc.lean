/-
  print's writer: inline fragments.
-/
import Derived.Test.YtkfllppggjhhmaaGreatDoorMPwc1
namespace Go.Proofs.YtkfllppggjhhmaaGreatDoor
open Go.RowKit
set_option linter.unusedVariables false

set_option maxHeartbeats 1500000 in
set_option maxRecDepth 100000 in
theorem pInlW_0 {N R k : Nat} {n m : Nat} {D : Nat → Prop} {x : SelT} {cs : List Value} {s : Ws} (w : World) (ih : SetAt n) (hm : n < m) (hkn : k + n < 65536) (h : Wv N R k s w) (hE : SelE (n + 1) w D x cs) (hD : ∀ b, D b → b < N) (hlen : (inlW (setW m) x s).out.length ≤ 140737488355328) (hon : x.on_.isEmpty = true) : Calls Tryz.prog 148 #[.pointer (some ⟨R, 0, none⟩), .agg cs.toArray] w (WAns N R k (inlW (setW m) x s) w) := by
  obtain ⟨hz1, va, vd, vs, rfl, ha1, hd1, hs1⟩ := hE
  obtain ⟨aa, ca, rfl⟩ := ha1.shape
  obtain ⟨ad, cd, rfl⟩ := hd1.shape
  obtain ⟨as7, cs7, rfl⟩ := hs1.shape
  have HA := Lib.hid ha1
  have HD := Lib.hid hd1
  have HS := Lib.hid hs1
  have HDD := Lib.hid hD
  have HIH := Lib.hid ih
  have HM := Lib.hid (show inlW (setW m) x s = setW m x.sels (dirsW x.dirs (wrs [dotS] s)) by unfold inlW onW; rw [hon]; rfl)
  have hl5 : (setW m x.sels (dirsW x.dirs (wrs [dotS] s))).out.length ≤ 140737488355328 := by rw [← HM.out]; exact hlen
  have hl3 : (dirsW x.dirs (wrs [dotS] s)).out.length ≤ 140737488355328 := Nat.le_trans (setW_k (I := Mo (dirsW x.dirs (wrs [dotS] s))) (mo_wr _) m x.sels _ (Nat.le_refl _)) hl5
  have hl2 : (wrs [dotS] s).out.length ≤ 140737488355328 := Nat.le_trans (dirsW_k (I := Mo (wrs [dotS] s)) (mo_wr _) x.dirs _ (Nat.le_refl _)) hl3
  have hl1 := hl2
  have e1 : ((⟨x.on_.toArray⟩ : ByteArray) == ⟨#[]⟩) = true := by rw [nm_empty, hon]
  have e2 : ((⟨x.on_.toArray⟩ : ByteArray) != ⟨#[]⟩) = false := by rw [nm_nonempty, hon]; rfl
  have HL := Lib.hid (And.intro hl1 (And.intro hl2 (And.intro hl3 hl5)))
  have HW0 := Lib.hid ((Wk.refl h).alloc (.cells #[.int .i64 x.k, .string ⟨x.al.toArray⟩, .string ⟨x.nm.toArray⟩, .string ⟨x.on_.toArray⟩, .slice aa x.args.length ca, .slice ad x.dirs.length cd, .slice as7 x.sels.length cs7] 49))
  have HB0 := Lib.hid (show (w.alloc (.cells #[.int .i64 x.k, .string ⟨x.al.toArray⟩, .string ⟨x.nm.toArray⟩, .string ⟨x.on_.toArray⟩, .slice aa x.args.length ca, .slice ad x.dirs.length cd, .slice as7 x.sels.length cs7] 49)).heap[w.heap.size]? = some (.cells #[.int .i64 x.k, .string ⟨x.al.toArray⟩, .string ⟨x.nm.toArray⟩, .string ⟨x.on_.toArray⟩, .slice aa x.args.length ca, .slice ad x.dirs.length cd, .slice as7 x.sels.length cs7] 49 (0, 0)) from heap_alloc_new _ _)
  have hlR := h.lt
  have hbR : w.heap.size ≠ R := by omega
  clear h ha1 hd1 hs1 hD ih hlen hl1 hl2 hl3 hl5
  generalize inlW (setW m) x s = RES at *
  show Calls Tryz.prog 148 #[.pointer (some ⟨R, 0, none⟩), .agg #[.int .i64 x.k, .string ⟨x.al.toArray⟩, .string ⟨x.nm.toArray⟩, .string ⟨x.on_.toArray⟩, .slice aa x.args.length ca, .slice ad x.dirs.length cd, .slice as7 x.sels.length cs7]] w _
  go_enter Tryz.func148, Tryz.ntmps148
  have hT := txOne (v := ⟨#[46, 46, 46]⟩) HW0.out
  have HCW := write_any (l := [⟨#[46, 46, 46]⟩]) (cap := 1) _ hT.1.1 hT.2 (show 1 ≤ 100 by decide) (Nat.le_refl _) HL.out.1
  have HCW : Calls Tryz.prog 69 #[.pointer (some ⟨R, 0, none⟩), .slice (some ⟨(w.alloc (.cells #[.int .i64 x.k, .string ⟨x.al.toArray⟩, .string ⟨x.nm.toArray⟩, .string ⟨x.on_.toArray⟩, .slice aa x.args.length ca, .slice ad x.dirs.length cd, .slice as7 x.sels.length cs7] 49)).heap.size, 0, none⟩) 1 1] _ _ := HCW
  rw [show (w.alloc (.cells #[.int .i64 x.k, .string ⟨x.al.toArray⟩, .string ⟨x.nm.toArray⟩, .string ⟨x.on_.toArray⟩, .slice aa x.args.length ca, .slice ad x.dirs.length cd, .slice as7 x.sels.length cs7] 49)).heap.size = w.heap.size + 1 by simp] at HCW
  have HT1 := Lib.hid hT.1
  clear hT
  go_wp2_with fail
  refine HCW.mono ?_
  rintro e w1 ⟨rfl, hk⟩
  have HW1 : Hid (Wk N R k (wrs [dotS] s) w w1) := Lib.hid (HW0.out.trans (HT1.out.trans hk))
  have HB1 := Lib.hid ((HT1.out.trans hk).box HB0.out (by decide) hbR)
  obtain ⟨q0, q1, q2, q3, q4, q5, q6, qf, hbl⟩ := bk7 HB1.out
  clear hk
  clear HCW HT1
  have HC := pDirsW_any w1 HW1.out.1 (RowD.step dirOk (fun _ h => h) (fun b o hb => World.cell?_of_block (a := ⟨b, o, none⟩) (HW1.out.2.1.block b (HDD.out b hb))) HD.out) HDD.out HL.out.2.2.1
  go_wp2_with fail
  refine HC.mono ?_
  rintro e w2 ⟨rfl, hk⟩
  have HW2 : Hid (Wk N R k (dirsW x.dirs (wrs [dotS] s)) w w2) := Lib.hid (HW1.out.trans hk)
  have HB2 := Lib.hid (hk.box HB1.out (by decide) hbR)
  clear q0 q1 q2 q3 q4 q5 q6 qf hbl
  obtain ⟨q0, q1, q2, q3, q4, q5, q6, qf, hbl⟩ := bk7 HB2.out
  clear hk
  clear HC
  have HC := HIH.out N R k m D x.sels _ _ w2 hm hkn HW2.out.1 (RowD.step (selOk n) (fun _ h => h) (fun b o hb => World.cell?_of_block (a := ⟨b, o, none⟩) (HW2.out.2.1.block b (HDD.out b hb))) HS.out) HDD.out HL.out.2.2.2
  go_wp2_with fail
  refine HC.mono ?_
  rintro e w3 ⟨rfl, hk⟩
  have HW3 : Hid (Wk N R k (setW m x.sels (dirsW x.dirs (wrs [dotS] s))) w w3) := Lib.hid (HW2.out.trans hk)
  have HB3 := Lib.hid (hk.box HB2.out (by decide) hbR)
  clear q0 q1 q2 q3 q4 q5 q6 qf hbl
  obtain ⟨q0, q1, q2, q3, q4, q5, q6, qf, hbl⟩ := bk7 HB3.out
  clear hk
  clear HC
  go_wp2_with fail
  go_end0
  rw [HM.out]
  exact ⟨rfl, HW3.out⟩

set_option maxHeartbeats 1500000 in
set_option maxRecDepth 100000 in
theorem pInlW_1 {N R k : Nat} {n m : Nat} {D : Nat → Prop} {x : SelT} {cs : List Value} {s : Ws} (w : World) (ih : SetAt n) (hm : n < m) (hkn : k + n < 65536) (h : Wv N R k s w) (hE : SelE (n + 1) w D x cs) (hD : ∀ b, D b → b < N) (hlen : (inlW (setW m) x s).out.length ≤ 140737488355328) (hon : x.on_.isEmpty = false) : Calls Tryz.prog 148 #[.pointer (some ⟨R, 0, none⟩), .agg cs.toArray] w (WAns N R k (inlW (setW m) x s) w) := by
  obtain ⟨hz1, va, vd, vs, rfl, ha1, hd1, hs1⟩ := hE
  obtain ⟨aa, ca, rfl⟩ := ha1.shape
  obtain ⟨ad, cd, rfl⟩ := hd1.shape
  obtain ⟨as7, cs7, rfl⟩ := hs1.shape
  have HA := Lib.hid ha1
  have HD := Lib.hid hd1
  have HS := Lib.hid hs1
  have HDD := Lib.hid hD
  have HIH := Lib.hid ih
  have HM := Lib.hid (show inlW (setW m) x s = setW m x.sels (dirsW x.dirs (wrs [onB, x.on_] (wrs [dotS] s))) by unfold inlW onW; rw [hon]; rfl)
  have hl5 : (setW m x.sels (dirsW x.dirs (wrs [onB, x.on_] (wrs [dotS] s)))).out.length ≤ 140737488355328 := by rw [← HM.out]; exact hlen
  have hl3 : (dirsW x.dirs (wrs [onB, x.on_] (wrs [dotS] s))).out.length ≤ 140737488355328 := Nat.le_trans (setW_k (I := Mo (dirsW x.dirs (wrs [onB, x.on_] (wrs [dotS] s)))) (mo_wr _) m x.sels _ (Nat.le_refl _)) hl5
  have hl2 : (wrs [onB, x.on_] (wrs [dotS] s)).out.length ≤ 140737488355328 := Nat.le_trans (dirsW_k (I := Mo (wrs [onB, x.on_] (wrs [dotS] s))) (mo_wr _) x.dirs _ (Nat.le_refl _)) hl3
  have hl1 : (wrs [dotS] s).out.length ≤ 140737488355328 := Nat.le_trans (wrs_k (I := Mo (wrs [dotS] s)) (mo_wr _) [onB, x.on_] _ (Nat.le_refl _)) hl2
  have e1 : ((⟨x.on_.toArray⟩ : ByteArray) == ⟨#[]⟩) = false := by rw [nm_empty, hon]
  have e2 : ((⟨x.on_.toArray⟩ : ByteArray) != ⟨#[]⟩) = true := by rw [nm_nonempty, hon]; rfl
  have HL := Lib.hid (And.intro hl1 (And.intro hl2 (And.intro hl3 hl5)))
  have HW0 := Lib.hid ((Wk.refl h).alloc (.cells #[.int .i64 x.k, .string ⟨x.al.toArray⟩, .string ⟨x.nm.toArray⟩, .string ⟨x.on_.toArray⟩, .slice aa x.args.length ca, .slice ad x.dirs.length cd, .slice as7 x.sels.length cs7] 49))
  have HB0 := Lib.hid (show (w.alloc (.cells #[.int .i64 x.k, .string ⟨x.al.toArray⟩, .string ⟨x.nm.toArray⟩, .string ⟨x.on_.toArray⟩, .slice aa x.args.length ca, .slice ad x.dirs.length cd, .slice as7 x.sels.length cs7] 49)).heap[w.heap.size]? = some (.cells #[.int .i64 x.k, .string ⟨x.al.toArray⟩, .string ⟨x.nm.toArray⟩, .string ⟨x.on_.toArray⟩, .slice aa x.args.length ca, .slice ad x.dirs.length cd, .slice as7 x.sels.length cs7] 49 (0, 0)) from heap_alloc_new _ _)
  have hlR := h.lt
  have hbR : w.heap.size ≠ R := by omega
  clear h ha1 hd1 hs1 hD ih hlen hl1 hl2 hl3 hl5
  generalize inlW (setW m) x s = RES at *
  show Calls Tryz.prog 148 #[.pointer (some ⟨R, 0, none⟩), .agg #[.int .i64 x.k, .string ⟨x.al.toArray⟩, .string ⟨x.nm.toArray⟩, .string ⟨x.on_.toArray⟩, .slice aa x.args.length ca, .slice ad x.dirs.length cd, .slice as7 x.sels.length cs7]] w _
  go_enter Tryz.func148, Tryz.ntmps148
  have hT := txOne (v := ⟨#[46, 46, 46]⟩) HW0.out
  have HCW := write_any (l := [⟨#[46, 46, 46]⟩]) (cap := 1) _ hT.1.1 hT.2 (show 1 ≤ 100 by decide) (Nat.le_refl _) HL.out.1
  have HCW : Calls Tryz.prog 69 #[.pointer (some ⟨R, 0, none⟩), .slice (some ⟨(w.alloc (.cells #[.int .i64 x.k, .string ⟨x.al.toArray⟩, .string ⟨x.nm.toArray⟩, .string ⟨x.on_.toArray⟩, .slice aa x.args.length ca, .slice ad x.dirs.length cd, .slice as7 x.sels.length cs7] 49)).heap.size, 0, none⟩) 1 1] _ _ := HCW
  rw [show (w.alloc (.cells #[.int .i64 x.k, .string ⟨x.al.toArray⟩, .string ⟨x.nm.toArray⟩, .string ⟨x.on_.toArray⟩, .slice aa x.args.length ca, .slice ad x.dirs.length cd, .slice as7 x.sels.length cs7] 49)).heap.size = w.heap.size + 1 by simp] at HCW
  have HT1 := Lib.hid hT.1
  clear hT
  go_wp2_with fail
  refine HCW.mono ?_
  rintro e w1 ⟨rfl, hk⟩
  have HW1 : Hid (Wk N R k (wrs [dotS] s) w w1) := Lib.hid (HW0.out.trans (HT1.out.trans hk))
  have HB1 := Lib.hid ((HT1.out.trans hk).box HB0.out (by decide) hbR)
  obtain ⟨q0, q1, q2, q3, q4, q5, q6, qf, hbl⟩ := bk7 HB1.out
  clear hk
  clear HCW HT1
  have hT := txTwo (v := ⟨#[111, 110, 32]⟩) (u := ⟨x.on_.toArray⟩) HW1.out
  have HCW := write_any (l := [⟨#[111, 110, 32]⟩, ⟨x.on_.toArray⟩]) (cap := 2) _ hT.1.1 hT.2 (show 2 ≤ 100 by decide) (Nat.le_refl _) HL.out.2.1
  have HCW : Calls Tryz.prog 69 #[.pointer (some ⟨R, 0, none⟩), .slice (some ⟨w1.heap.size, 0, none⟩) 2 2] _ _ := HCW
  have HT1 := Lib.hid hT.1
  clear hT
  go_wp2_with fail
  refine HCW.mono ?_
  rintro e w2 ⟨rfl, hk⟩
  have HW2 : Hid (Wk N R k (wrs [onB, x.on_] (wrs [dotS] s)) w w2) := Lib.hid (HW1.out.trans (HT1.out.trans hk))
  have HB2 := Lib.hid ((HT1.out.trans hk).box HB1.out (by decide) hbR)
  clear q0 q1 q2 q3 q4 q5 q6 qf hbl
  obtain ⟨q0, q1, q2, q3, q4, q5, q6, qf, hbl⟩ := bk7 HB2.out
  clear hk
  clear HCW HT1
  have HC := pDirsW_any w2 HW2.out.1 (RowD.step dirOk (fun _ h => h) (fun b o hb => World.cell?_of_block (a := ⟨b, o, none⟩) (HW2.out.2.1.block b (HDD.out b hb))) HD.out) HDD.out HL.out.2.2.1
  go_wp2_with fail
  refine HC.mono ?_
  rintro e w3 ⟨rfl, hk⟩
  have HW3 : Hid (Wk N R k (dirsW x.dirs (wrs [onB, x.on_] (wrs [dotS] s))) w w3) := Lib.hid (HW2.out.trans hk)
  have HB3 := Lib.hid (hk.box HB2.out (by decide) hbR)
  clear q0 q1 q2 q3 q4 q5 q6 qf hbl
  obtain ⟨q0, q1, q2, q3, q4, q5, q6, qf, hbl⟩ := bk7 HB3.out
  clear hk
  clear HC
  have HC := HIH.out N R k m D x.sels _ _ w3 hm hkn HW3.out.1 (RowD.step (selOk n) (fun _ h => h) (fun b o hb => World.cell?_of_block (a := ⟨b, o, none⟩) (HW3.out.2.1.block b (HDD.out b hb))) HS.out) HDD.out HL.out.2.2.2
  go_wp2_with fail
  refine HC.mono ?_
  rintro e w4 ⟨rfl, hk⟩
  have HW4 : Hid (Wk N R k (setW m x.sels (dirsW x.dirs (wrs [onB, x.on_] (wrs [dotS] s)))) w w4) := Lib.hid (HW3.out.trans hk)
  have HB4 := Lib.hid (hk.box HB3.out (by decide) hbR)
  clear q0 q1 q2 q3 q4 q5 q6 qf hbl
  obtain ⟨q0, q1, q2, q3, q4, q5, q6, qf, hbl⟩ := bk7 HB4.out
  clear hk
  clear HC
  go_wp2_with fail
  go_end0
  rw [HM.out]
  exact ⟨rfl, HW4.out⟩

set_option maxHeartbeats 1500000 in
set_option maxRecDepth 100000 in
theorem pInlW_any {N R k : Nat} {n m : Nat} {D : Nat → Prop} {x : SelT} {cs : List Value} {s : Ws} (w : World) (ih : SetAt n) (hm : n < m) (hkn : k + n < 65536) (h : Wv N R k s w) (hE : SelE (n + 1) w D x cs) (hD : ∀ b, D b → b < N) (hlen : (inlW (setW m) x s).out.length ≤ 140737488355328) : Calls Tryz.prog 148 #[.pointer (some ⟨R, 0, none⟩), .agg cs.toArray] w (WAns N R k (inlW (setW m) x s) w) := by
  cases hon : x.on_.isEmpty
  · exact pInlW_1 w ih hm hkn h hE hD hlen hon
  · exact pInlW_0 w ih hm hkn h hE hD hlen hon

end Go.Proofs.YtkfllppggjhhmaaGreatDoor
/-
  print's writer: a selection, a set.
-/
namespace Go.Proofs.YtkfllppggjhhmaaGreatDoor
open Go.RowKit
set_option linter.unusedVariables false

set_option maxHeartbeats 1500000 in
set_option maxRecDepth 100000 in
theorem pSelW_any {N R k : Nat} {n m : Nat} {D : Nat → Prop} {x : SelT} {cs : List Value} {s : Ws} (w : World) (ih : SetAt n) (hm : n < m) (hkn : k + n < 65536) (h : Wv N R k s w) (hE : SelE (n + 1) w D x cs) (hD : ∀ b, D b → b < N) (hlen : (selW (setW m) x s).out.length ≤ 140737488355328) : Calls Tryz.prog 97 #[.pointer (some ⟨R, 0, none⟩), .agg cs.toArray] w (WAns N R k (selW (setW m) x s) w) := by
  obtain ⟨hz1, va, vd, vs, rfl, ha1, hd1, hs1⟩ := hE
  obtain ⟨aa, ca, rfl⟩ := ha1.shape
  obtain ⟨ad, cd, rfl⟩ := hd1.shape
  obtain ⟨as7, cs7, rfl⟩ := hs1.shape
  have HA := Lib.hid ha1
  have HD := Lib.hid hd1
  have HS := Lib.hid hs1
  have HDD := Lib.hid hD
  have HIH := Lib.hid ih
  have HE := Lib.hid (show SelE (n + 1) w D x [.int .i64 x.k, .string ⟨x.al.toArray⟩, .string ⟨x.nm.toArray⟩, .string ⟨x.on_.toArray⟩, .slice aa x.args.length ca, .slice ad x.dirs.length cd, .slice as7 x.sels.length cs7] from ⟨hz1, _, _, _, rfl, ha1, hd1, hs1⟩)
  have HW0 := Lib.hid ((Wk.refl h).alloc (.cells #[.int .i64 x.k, .string ⟨x.al.toArray⟩, .string ⟨x.nm.toArray⟩, .string ⟨x.on_.toArray⟩, .slice aa x.args.length ca, .slice ad x.dirs.length cd, .slice as7 x.sels.length cs7] 49))
  have HB0 := Lib.hid (show (w.alloc (.cells #[.int .i64 x.k, .string ⟨x.al.toArray⟩, .string ⟨x.nm.toArray⟩, .string ⟨x.on_.toArray⟩, .slice aa x.args.length ca, .slice ad x.dirs.length cd, .slice as7 x.sels.length cs7] 49)).heap[w.heap.size]? = some (.cells #[.int .i64 x.k, .string ⟨x.al.toArray⟩, .string ⟨x.nm.toArray⟩, .string ⟨x.on_.toArray⟩, .slice aa x.args.length ca, .slice ad x.dirs.length cd, .slice as7 x.sels.length cs7] 49 (0, 0)) from heap_alloc_new _ _)
  have hlR := h.lt
  have hbR : w.heap.size ≠ R := by omega
  obtain ⟨q0, q1, q2, q3, q4, q5, q6, qf, hbl⟩ := bk7 HB0.out
  have HEE := Lib.hid ((selOk (n + 1)).step (w' := w.alloc (.cells #[.int .i64 x.k, .string ⟨x.al.toArray⟩, .string ⟨x.nm.toArray⟩, .string ⟨x.on_.toArray⟩, .slice aa x.args.length ca, .slice ad x.dirs.length cd, .slice as7 x.sels.length cs7] 49)) (fun _ h => h) (fun b o hb => World.cell?_of_block (a := ⟨b, o, none⟩) (HW0.out.2.1.block b (HDD.out b hb))) HE.out)
  clear ha1 hd1 hs1 hD ih
  by_cases h1 : x.k = 1
  · have k1 : (x.k == 1) = true := by simpa using h1
    have HM := Lib.hid (show selW (setW m) x s = fldW (setW m) x s by unfold selW; rw [if_pos h1])
    have HC := pFieldW_any (x := x) _ HIH.out hm hkn HW0.out.1 HEE.out HDD.out (by rw [← HM.out]; exact hlen)
    have HC : Calls Tryz.prog 147 #[.pointer (some ⟨R, 0, none⟩), .agg #[.int .i64 x.k, .string ⟨x.al.toArray⟩, .string ⟨x.nm.toArray⟩, .string ⟨x.on_.toArray⟩, .slice aa x.args.length ca, .slice ad x.dirs.length cd, .slice as7 x.sels.length cs7]] _ _ := HC
    clear h1 hlen h
    generalize selW (setW m) x s = RES at *
    generalize fldW (setW m) x s = RES2 at *
    show Calls Tryz.prog 97 #[.pointer (some ⟨R, 0, none⟩), .agg #[.int .i64 x.k, .string ⟨x.al.toArray⟩, .string ⟨x.nm.toArray⟩, .string ⟨x.on_.toArray⟩, .slice aa x.args.length ca, .slice ad x.dirs.length cd, .slice as7 x.sels.length cs7]] w _
    go_enter Tryz.func97, Tryz.ntmps97
    go_wp2_with fail
    refine HC.mono ?_
    rintro e w1 ⟨rfl, hk⟩
    have HW1 := Lib.hid (HW0.out.trans hk)
    clear hk HC
    go_wp2_with fail
    go_end0
    rw [HM.out]
    exact ⟨rfl, HW1.out⟩
  have k1 : (x.k == 1) = false := by simpa using h1
  by_cases h2 : x.k = 2
  · have k2 : (x.k == 2) = true := by simpa using h2
    have HM := Lib.hid (show selW (setW m) x s = dirsW x.dirs (wrs [dotS, x.nm] s) by unfold selW; rw [if_neg h1, if_pos h2])
    have hl5 : (dirsW x.dirs (wrs [dotS, x.nm] s)).out.length ≤ 140737488355328 := by rw [← HM.out]; exact hlen
    have hl1 : (wrs [dotS, x.nm] s).out.length ≤ 140737488355328 := Nat.le_trans (dirsW_k (I := Mo (wrs [dotS, x.nm] s)) (mo_wr _) x.dirs _ (Nat.le_refl _)) hl5
    have HL := Lib.hid (And.intro hl1 hl5)
    clear h1 h2 hlen h hl1 hl5
    generalize selW (setW m) x s = RES at *
    show Calls Tryz.prog 97 #[.pointer (some ⟨R, 0, none⟩), .agg #[.int .i64 x.k, .string ⟨x.al.toArray⟩, .string ⟨x.nm.toArray⟩, .string ⟨x.on_.toArray⟩, .slice aa x.args.length ca, .slice ad x.dirs.length cd, .slice as7 x.sels.length cs7]] w _
    go_enter Tryz.func97, Tryz.ntmps97
    have hT := txTwo (v := ⟨#[46, 46, 46]⟩) (u := ⟨x.nm.toArray⟩) HW0.out
    have HCW := write_any (l := [⟨#[46, 46, 46]⟩, ⟨x.nm.toArray⟩]) (cap := 2) _ hT.1.1 hT.2 (show 2 ≤ 100 by decide) (Nat.le_refl _) HL.out.1
    have HCW : Calls Tryz.prog 69 #[.pointer (some ⟨R, 0, none⟩), .slice (some ⟨(w.alloc (.cells #[.int .i64 x.k, .string ⟨x.al.toArray⟩, .string ⟨x.nm.toArray⟩, .string ⟨x.on_.toArray⟩, .slice aa x.args.length ca, .slice ad x.dirs.length cd, .slice as7 x.sels.length cs7] 49)).heap.size, 0, none⟩) 2 2] _ _ := HCW
    rw [show (w.alloc (.cells #[.int .i64 x.k, .string ⟨x.al.toArray⟩, .string ⟨x.nm.toArray⟩, .string ⟨x.on_.toArray⟩, .slice aa x.args.length ca, .slice ad x.dirs.length cd, .slice as7 x.sels.length cs7] 49)).heap.size = w.heap.size + 1 by simp] at HCW
    have HT1 := Lib.hid hT.1
    clear hT
    go_wp2_with fail
    refine HCW.mono ?_
    rintro e w1 ⟨rfl, hk⟩
    have HW1 : Hid (Wk N R k (wrs [dotS, x.nm] s) w w1) := Lib.hid (HW0.out.trans (HT1.out.trans hk))
    have HB1 := Lib.hid ((HT1.out.trans hk).box HB0.out (by decide) hbR)
    clear q0 q1 q2 q3 q4 q5 q6 qf hbl
    obtain ⟨q0, q1, q2, q3, q4, q5, q6, qf, hbl⟩ := bk7 HB1.out
    clear hk
    clear HCW HT1
    have HC := pDirsW_any w1 HW1.out.1 (RowD.step dirOk (fun _ h => h) (fun b o hb => World.cell?_of_block (a := ⟨b, o, none⟩) (HW1.out.2.1.block b (HDD.out b hb))) HD.out) HDD.out HL.out.2
    go_wp2_with fail
    refine HC.mono ?_
    rintro e w2 ⟨rfl, hk⟩
    have HW2 : Hid (Wk N R k (dirsW x.dirs (wrs [dotS, x.nm] s)) w w2) := Lib.hid (HW1.out.trans hk)
    have HB2 := Lib.hid (hk.box HB1.out (by decide) hbR)
    clear q0 q1 q2 q3 q4 q5 q6 qf hbl
    obtain ⟨q0, q1, q2, q3, q4, q5, q6, qf, hbl⟩ := bk7 HB2.out
    clear hk
    clear HC
    go_wp2_with fail
    go_end0
    rw [HM.out]
    exact ⟨rfl, HW2.out⟩
  have k2 : (x.k == 2) = false := by simpa using h2
  by_cases h3 : x.k = 3
  · have k3 : (x.k == 3) = true := by simpa using h3
    have HM := Lib.hid (show selW (setW m) x s = inlW (setW m) x s by unfold selW; rw [if_neg h1, if_neg h2, if_pos h3])
    have HC := pInlW_any (x := x) _ HIH.out hm hkn HW0.out.1 HEE.out HDD.out (by rw [← HM.out]; exact hlen)
    have HC : Calls Tryz.prog 148 #[.pointer (some ⟨R, 0, none⟩), .agg #[.int .i64 x.k, .string ⟨x.al.toArray⟩, .string ⟨x.nm.toArray⟩, .string ⟨x.on_.toArray⟩, .slice aa x.args.length ca, .slice ad x.dirs.length cd, .slice as7 x.sels.length cs7]] _ _ := HC
    clear h1 h2 h3 hlen h
    generalize selW (setW m) x s = RES at *
    generalize inlW (setW m) x s = RES2 at *
    show Calls Tryz.prog 97 #[.pointer (some ⟨R, 0, none⟩), .agg #[.int .i64 x.k, .string ⟨x.al.toArray⟩, .string ⟨x.nm.toArray⟩, .string ⟨x.on_.toArray⟩, .slice aa x.args.length ca, .slice ad x.dirs.length cd, .slice as7 x.sels.length cs7]] w _
    go_enter Tryz.func97, Tryz.ntmps97
    go_wp2_with fail
    refine HC.mono ?_
    rintro e w1 ⟨rfl, hk⟩
    have HW1 := Lib.hid (HW0.out.trans hk)
    clear hk HC
    go_wp2_with fail
    go_end0
    rw [HM.out]
    exact ⟨rfl, HW1.out⟩
  have k3 : (x.k == 3) = false := by simpa using h3
  have HM := Lib.hid (show selW (setW m) x s = s by unfold selW; rw [if_neg h1, if_neg h2, if_neg h3])
  clear h1 h2 h3 hlen h
  generalize selW (setW m) x s = RES at *
  show Calls Tryz.prog 97 #[.pointer (some ⟨R, 0, none⟩), .agg #[.int .i64 x.k, .string ⟨x.al.toArray⟩, .string ⟨x.nm.toArray⟩, .string ⟨x.on_.toArray⟩, .slice aa x.args.length ca, .slice ad x.dirs.length cd, .slice as7 x.sels.length cs7]] w _
  go_enter Tryz.func97, Tryz.ntmps97
  go_wp2_with fail
  go_end0
  rw [HM.out]
  exact ⟨rfl, HW0.out⟩

set_option maxHeartbeats 1500000 in
set_option maxRecDepth 100000 in
theorem setW_step (n : Nat) (ih : ∀ n', n = n' + 1 → SetAt n') : SetAt n := by
  intro N R k m D xs v s w hm hkn h hr hD hlen
  obtain ⟨m, rfl⟩ : ∃ m', m = m' + 1 := ⟨m - 1, by omega⟩
  obtain ⟨a, cap, rfl⟩ := hr.shape
  have HM := Lib.hid (setW_one m xs s)
  have hl3 : (wrs [[125]] (svW (selW (setW m)) [32] true xs (wrs [[123]] s))).out.length ≤ 140737488355328 := by rw [← HM.out]; exact hlen
  have hl2 : (svW (selW (setW m)) [32] true xs (wrs [[123]] s)).out.length ≤ 140737488355328 := Nat.le_trans (wrs_k (I := Mo (svW (selW (setW m)) [32] true xs (wrs [[123]] s))) (mo_wr _) [[125]] _ (Nat.le_refl _)) hl3
  have hl1 : (wrs [[123]] s).out.length ≤ 140737488355328 := Nat.le_trans (svW_k (I := Mo (wrs [[123]] s)) (mo_wr _) (fun x s' h => selW_k (mo_wr _) (setW_k (mo_wr _) m) x s' h) _ _ _ _ (Nat.le_refl _)) hl2
  have HL := Lib.hid (And.intro hl1 (And.intro hl2 hl3))
  have HR := Lib.hid hr
  have HDD := Lib.hid hD
  have HIH := Lib.hid ih
  have HH := Lib.hid h
  obtain ⟨-, -, c4, hfz, hRl⟩ := h.cells
  have hk16 : ((k : Int) == 65536) = false := by rw [beq_eq_false_iff_ne]; omega
  have hw1 : IntKind.i64.wrap ((k : Int) + 1) = ((k + 1 : Nat) : Int) := by rw [IntWalk.i64_in _ (by omega)]; omega
  have HW0 := Lib.hid ((Wk.refl h).set (h.setK (k + 1) (by omega)))
  have hT := txOne (v := ⟨#[123]⟩) HW0.out
  have HCW := write_any (l := [⟨#[123]⟩]) (cap := 1) _ hT.1.1 hT.2 (show 1 ≤ 100 by decide) (Nat.le_refl _) HL.out.1
  have HCW : Calls Tryz.prog 69 #[.pointer (some ⟨R, 0, none⟩), .slice (some ⟨(w.setCell ⟨R, 4, none⟩ (.int .i64 ((k + 1 : Nat) : Int))).heap.size, 0, none⟩) 1 1] _ _ := HCW
  rw [show (w.setCell ⟨R, 4, none⟩ (.int .i64 ((k + 1 : Nat) : Int))).heap.size = w.heap.size by simp [World.setCell]] at HCW
  have HT1 := Lib.hid hT.1
  have hwk : ((k + 1 : Nat) : Int) = (k : Int) + 1 := by omega
  clear hT h hr hD ih hlen hl1 hl2 hl3
  generalize setW (m + 1) xs s = RES at *
  go_enter Tryz.func52, Tryz.ntmps52
  go_wp2_with fail
  refine HCW.mono ?_
  rintro e w2 ⟨rfl, hk2⟩
  have HW2 : Hid (Wk N R (k + 1) (wrs [[123]] s) w w2) := Lib.hid (HW0.out.trans (HT1.out.trans hk2))
  have HC := svSel_any (n := n) (selW (setW m)) ⟨#[32]⟩ w2 HW2.out.1 (RowD.step (selOk n) (fun _ h => h) (fun b o hb => World.cell?_of_block (a := ⟨b, o, none⟩) (HW2.out.2.1.block b (HDD.out b hb))) HR.out) HDD.out (fun x hx s' cs W hv hb hE hl => by
    cases n with
    | zero => exact hE.elim
    | succ n' => exact pSelW_any W (HIH.out n' rfl) (by omega) (by omega) hv hE HDD.out hl) (fun s0 x s' h => selW_k (mo_wr s0) (setW_k (mo_wr s0) m) x s' h) HL.out.2.1
  clear hk2 HCW c4 hfz
  go_wp2_with fail
  refine HC.mono ?_
  rintro e w3 ⟨rfl, hk3⟩
  have HW3 : Hid (Wk N R (k + 1) (svW (selW (setW m)) [32] true xs (wrs [[123]] s)) w w3) := Lib.hid (HW2.out.trans hk3)
  have hT := txOne (v := ⟨#[125]⟩) HW3.out
  have HCW := write_any (l := [⟨#[125]⟩]) (cap := 1) _ hT.1.1 hT.2 (show 1 ≤ 100 by decide) (Nat.le_refl _) HL.out.2.2
  have HCW : Calls Tryz.prog 69 #[.pointer (some ⟨R, 0, none⟩), .slice (some ⟨w3.heap.size, 0, none⟩) 1 1] _ _ := HCW
  have HT2 := Lib.hid hT.1
  clear hk3 HC hT HT1
  go_wp2_with fail
  refine HCW.mono ?_
  rintro e w4 ⟨rfl, hk4⟩
  have HW4 : Hid (Wk N R (k + 1) (wrs [[125]] (svW (selW (setW m)) [32] true xs (wrs [[123]] s))) w w4) := Lib.hid (HW3.out.trans (HT2.out.trans hk4))
  obtain ⟨-, -, c4, hfz, hRl4⟩ := HW4.out.1.cells
  have hw2 : IntKind.i64.wrap (((k + 1 : Nat) : Int) - 1) = (k : Int) := by rw [IntWalk.i64_in _ (by omega)]; omega
  have HW5 := Lib.hid (HW4.out.set (HW4.out.1.setK k (by omega)))
  clear hk4 HCW
  go_wp2_with fail
  go_end0
  rw [HM.out]
  exact ⟨rfl, HW5.out⟩
theorem pSetW_any : ∀ n, SetAt n
  | 0 => setW_step 0 fun _ e => by cases e
  | n + 1 => setW_step (n + 1) fun n' e => by injection e with e; subst e; exact pSetW_any n

end Go.Proofs.YtkfllppggjhhmaaGreatDoor
