/-
  print's writer: selections.
-/
import Derived.Test.YtkfllppggjhhmaaGreatDoorMPsvSel
namespace Go.Proofs.YtkfllppggjhhmaaGreatDoor
open Go.RowKit
set_option linter.unusedVariables false

theorem bk7 {W : World} {g : Nat} {c0 c1 c2 c3 c4 c5 c6 : Value} {T : TypeId} (h : W.heap[g]? = some (.cells #[c0, c1, c2, c3, c4, c5, c6] T (0, 0))) : W.cell? ⟨g, 0, none⟩ = some c0 ∧ W.cell? ⟨g, 1, none⟩ = some c1 ∧ W.cell? ⟨g, 2, none⟩ = some c2 ∧ W.cell? ⟨g, 3, none⟩ = some c3 ∧ W.cell? ⟨g, 4, none⟩ = some c4 ∧ W.cell? ⟨g, 5, none⟩ = some c5 ∧ W.cell? ⟨g, 6, none⟩ = some c6 ∧ (∀ j, W.frozen? ⟨g, j, none⟩ = false) ∧ g < W.heap.size :=
  ⟨Lib.cell_of_heap h 0, Lib.cell_of_heap h 1, Lib.cell_of_heap h 2, Lib.cell_of_heap h 3, Lib.cell_of_heap h 4, Lib.cell_of_heap h 5, Lib.cell_of_heap h 6, fun j => by simp [World.frozen?, h], (Array.getElem?_eq_some_iff.1 h).1⟩
theorem bk5 {W : World} {g : Nat} {c0 c1 c2 c3 c4 : Value} {T : TypeId} (h : W.heap[g]? = some (.cells #[c0, c1, c2, c3, c4] T (0, 0))) : W.cell? ⟨g, 0, none⟩ = some c0 ∧ W.cell? ⟨g, 1, none⟩ = some c1 ∧ W.cell? ⟨g, 2, none⟩ = some c2 ∧ W.cell? ⟨g, 3, none⟩ = some c3 ∧ W.cell? ⟨g, 4, none⟩ = some c4 ∧ (∀ j, W.frozen? ⟨g, j, none⟩ = false) ∧ g < W.heap.size :=
  ⟨Lib.cell_of_heap h 0, Lib.cell_of_heap h 1, Lib.cell_of_heap h 2, Lib.cell_of_heap h 3, Lib.cell_of_heap h 4, fun j => by simp [World.frozen?, h], (Array.getElem?_eq_some_iff.1 h).1⟩
theorem bk4 {W : World} {g : Nat} {c0 c1 c2 c3 : Value} {T : TypeId} (h : W.heap[g]? = some (.cells #[c0, c1, c2, c3] T (0, 0))) : W.cell? ⟨g, 0, none⟩ = some c0 ∧ W.cell? ⟨g, 1, none⟩ = some c1 ∧ W.cell? ⟨g, 2, none⟩ = some c2 ∧ W.cell? ⟨g, 3, none⟩ = some c3 ∧ (∀ j, W.frozen? ⟨g, j, none⟩ = false) ∧ g < W.heap.size :=
  ⟨Lib.cell_of_heap h 0, Lib.cell_of_heap h 1, Lib.cell_of_heap h 2, Lib.cell_of_heap h 3, fun j => by simp [World.frozen?, h], (Array.getElem?_eq_some_iff.1 h).1⟩
theorem bk2 {W : World} {g : Nat} {c0 c1 : Value} {T : TypeId} (h : W.heap[g]? = some (.cells #[c0, c1] T (0, 0))) : W.cell? ⟨g, 0, none⟩ = some c0 ∧ W.cell? ⟨g, 1, none⟩ = some c1 ∧ (∀ j, W.frozen? ⟨g, j, none⟩ = false) ∧ g < W.heap.size :=
  ⟨Lib.cell_of_heap h 0, Lib.cell_of_heap h 1, fun j => by simp [World.frozen?, h], (Array.getElem?_eq_some_iff.1 h).1⟩
theorem nm_empty (l : Nm) : ((⟨l.toArray⟩ : ByteArray) == ⟨#[]⟩) = l.isEmpty := by
  cases l with
  | nil => rfl
  | cons a r => rfl
theorem nm_nonempty (l : Nm) : ((⟨l.toArray⟩ : ByteArray) != ⟨#[]⟩) = !l.isEmpty := by unfold bne; rw [nm_empty]
theorem setW_one (m : Nat) (l : List SelT) (s : Ws) : setW (m + 1) l s = wrs [[125]] (svW (selW (setW m)) [32] true l (wrs [[123]] s)) := rfl
/-- What set writes, of selections at most n deep. -/
def SetAt (n : Nat) : Prop := ∀ (N R k m : Nat) (D : Nat → Prop) (xs : List SelT) (v : Value) (s : Ws) (w : World), n < m → k + n < 65536 → Wv N R k s w → RowD (SelE n) 7 w D xs v → (∀ b, D b → b < N) → (setW m xs s).out.length ≤ 140737488355328 →
  Calls Tryz.prog 52 #[.pointer (some ⟨R, 0, none⟩), v] w (WAns N R k (setW m xs s) w)

set_option maxHeartbeats 1500000 in
set_option maxRecDepth 100000 in
theorem pFieldW_00 {N R k : Nat} {n m : Nat} {D : Nat → Prop} {x : SelT} {cs : List Value} {s : Ws} (w : World) (ih : SetAt n) (hm : n < m) (hkn : k + n < 65536) (h : Wv N R k s w) (hE : SelE (n + 1) w D x cs) (hD : ∀ b, D b → b < N) (hlen : (fldW (setW m) x s).out.length ≤ 140737488355328) (hal : x.al.isEmpty = true) (hse : x.sels.isEmpty = true) : Calls Tryz.prog 147 #[.pointer (some ⟨R, 0, none⟩), .agg cs.toArray] w (WAns N R k (fldW (setW m) x s) w) := by
  obtain ⟨hz1, va, vd, vs, rfl, ha1, hd1, hs1⟩ := hE
  obtain ⟨aa, ca, rfl⟩ := ha1.shape
  obtain ⟨ad, cd, rfl⟩ := hd1.shape
  obtain ⟨as7, cs7, rfl⟩ := hs1.shape
  have HA := Lib.hid ha1
  have HD := Lib.hid hd1
  have HS := Lib.hid hs1
  have HDD := Lib.hid hD
  have HIH := Lib.hid ih
  have HM := Lib.hid (show fldW (setW m) x s = dirsW x.dirs (argsW x.args (wrs [x.nm] (s))) by unfold fldW alW; rw [hal, hse]; rfl)
  have hl5 : (dirsW x.dirs (argsW x.args (wrs [x.nm] (s)))).out.length ≤ 140737488355328 := by rw [← HM.out]; exact hlen
  have hl4 := hl5
  have hl3 : (argsW x.args (wrs [x.nm] (s))).out.length ≤ 140737488355328 := Nat.le_trans (dirsW_k (I := Mo (argsW x.args (wrs [x.nm] (s)))) (mo_wr _) x.dirs _ (Nat.le_refl _)) hl4
  have hl2 : (wrs [x.nm] (s)).out.length ≤ 140737488355328 := Nat.le_trans (argsW_k (I := Mo (wrs [x.nm] (s))) (mo_wr _) x.args _ (Nat.le_refl _)) hl3
  have e1 : ((⟨x.al.toArray⟩ : ByteArray) == ⟨#[]⟩) = true := by rw [nm_empty, hal]
  have e2 : ((⟨x.al.toArray⟩ : ByteArray) != ⟨#[]⟩) = false := by rw [nm_nonempty, hal]; rfl
  have hsl : decide ((0 : Int) < (x.sels.length : Int)) = false := by
    rw [List.isEmpty_iff.1 hse]; rfl
  have hsl2 : decide (0 < x.sels.length) = false := by
    rw [List.isEmpty_iff.1 hse]; rfl
  have HL := Lib.hid (And.intro hl2 (And.intro hl3 (And.intro hl4 hl5)))
  have HW0 := Lib.hid ((Wk.refl h).alloc (.cells #[.int .i64 x.k, .string ⟨x.al.toArray⟩, .string ⟨x.nm.toArray⟩, .string ⟨x.on_.toArray⟩, .slice aa x.args.length ca, .slice ad x.dirs.length cd, .slice as7 x.sels.length cs7] 49))
  have HB0 := Lib.hid (show (w.alloc (.cells #[.int .i64 x.k, .string ⟨x.al.toArray⟩, .string ⟨x.nm.toArray⟩, .string ⟨x.on_.toArray⟩, .slice aa x.args.length ca, .slice ad x.dirs.length cd, .slice as7 x.sels.length cs7] 49)).heap[w.heap.size]? = some (.cells #[.int .i64 x.k, .string ⟨x.al.toArray⟩, .string ⟨x.nm.toArray⟩, .string ⟨x.on_.toArray⟩, .slice aa x.args.length ca, .slice ad x.dirs.length cd, .slice as7 x.sels.length cs7] 49 (0, 0)) from heap_alloc_new _ _)
  have hlR := h.lt
  have hbR : w.heap.size ≠ R := by omega
  clear h ha1 hd1 hs1 hD ih hlen hl2 hl3 hl4 hl5 hse
  generalize fldW (setW m) x s = RES at *
  show Calls Tryz.prog 147 #[.pointer (some ⟨R, 0, none⟩), .agg #[.int .i64 x.k, .string ⟨x.al.toArray⟩, .string ⟨x.nm.toArray⟩, .string ⟨x.on_.toArray⟩, .slice aa x.args.length ca, .slice ad x.dirs.length cd, .slice as7 x.sels.length cs7]] w _
  go_enter Tryz.func147, Tryz.ntmps147
  have hT := txOne (v := ⟨x.nm.toArray⟩) HW0.out
  have HCW := write_any (l := [⟨x.nm.toArray⟩]) (cap := 1) _ hT.1.1 hT.2 (show 1 ≤ 100 by decide) (Nat.le_refl _) HL.out.1
  have HCW : Calls Tryz.prog 69 #[.pointer (some ⟨R, 0, none⟩), .slice (some ⟨(w.alloc (.cells #[.int .i64 x.k, .string ⟨x.al.toArray⟩, .string ⟨x.nm.toArray⟩, .string ⟨x.on_.toArray⟩, .slice aa x.args.length ca, .slice ad x.dirs.length cd, .slice as7 x.sels.length cs7] 49)).heap.size, 0, none⟩) 1 1] _ _ := HCW
  rw [show (w.alloc (.cells #[.int .i64 x.k, .string ⟨x.al.toArray⟩, .string ⟨x.nm.toArray⟩, .string ⟨x.on_.toArray⟩, .slice aa x.args.length ca, .slice ad x.dirs.length cd, .slice as7 x.sels.length cs7] 49)).heap.size = w.heap.size + 1 by simp] at HCW
  have HT1 := Lib.hid hT.1
  clear hT
  go_wp2_with fail
  refine HCW.mono ?_
  rintro e w1 ⟨rfl, hk⟩
  have HW1 : Hid (Wk N R k (wrs [x.nm] (s)) w w1) := Lib.hid (HW0.out.trans (HT1.out.trans hk))
  have HB1 := Lib.hid ((HT1.out.trans hk).box HB0.out (by decide) hbR)
  obtain ⟨q0, q1, q2, q3, q4, q5, q6, qf, hbl⟩ := bk7 HB1.out
  clear hk
  clear HCW HT1
  have HC := pArgsW_any w1 HW1.out.1 (RowD.step argOk (fun _ h => h) (fun b o hb => World.cell?_of_block (a := ⟨b, o, none⟩) (HW1.out.2.1.block b (HDD.out b hb))) HA.out) HDD.out HL.out.2.1
  go_wp2_with fail
  refine HC.mono ?_
  rintro e w2 ⟨rfl, hk⟩
  have HW2 : Hid (Wk N R k (argsW x.args (wrs [x.nm] (s))) w w2) := Lib.hid (HW1.out.trans hk)
  have HB2 := Lib.hid (hk.box HB1.out (by decide) hbR)
  clear q0 q1 q2 q3 q4 q5 q6 qf hbl
  obtain ⟨q0, q1, q2, q3, q4, q5, q6, qf, hbl⟩ := bk7 HB2.out
  clear hk
  clear HC
  have HC := pDirsW_any w2 HW2.out.1 (RowD.step dirOk (fun _ h => h) (fun b o hb => World.cell?_of_block (a := ⟨b, o, none⟩) (HW2.out.2.1.block b (HDD.out b hb))) HD.out) HDD.out HL.out.2.2.1
  go_wp2_with fail
  refine HC.mono ?_
  rintro e w3 ⟨rfl, hk⟩
  have HW3 : Hid (Wk N R k (dirsW x.dirs (argsW x.args (wrs [x.nm] (s)))) w w3) := Lib.hid (HW2.out.trans hk)
  have HB3 := Lib.hid (hk.box HB2.out (by decide) hbR)
  clear q0 q1 q2 q3 q4 q5 q6 qf hbl
  obtain ⟨q0, q1, q2, q3, q4, q5, q6, qf, hbl⟩ := bk7 HB3.out
  clear hk
  clear HC
  go_wp2_with fail
  go_end0
  rw [HM.out]
  exact ⟨rfl, HW3.out⟩

set_option maxHeartbeats 1500000 in
set_option maxRecDepth 100000 in
theorem pFieldW_01 {N R k : Nat} {n m : Nat} {D : Nat → Prop} {x : SelT} {cs : List Value} {s : Ws} (w : World) (ih : SetAt n) (hm : n < m) (hkn : k + n < 65536) (h : Wv N R k s w) (hE : SelE (n + 1) w D x cs) (hD : ∀ b, D b → b < N) (hlen : (fldW (setW m) x s).out.length ≤ 140737488355328) (hal : x.al.isEmpty = true) (hse : x.sels.isEmpty = false) : Calls Tryz.prog 147 #[.pointer (some ⟨R, 0, none⟩), .agg cs.toArray] w (WAns N R k (fldW (setW m) x s) w) := by
  obtain ⟨hz1, va, vd, vs, rfl, ha1, hd1, hs1⟩ := hE
  obtain ⟨aa, ca, rfl⟩ := ha1.shape
  obtain ⟨ad, cd, rfl⟩ := hd1.shape
  obtain ⟨as7, cs7, rfl⟩ := hs1.shape
  have HA := Lib.hid ha1
  have HD := Lib.hid hd1
  have HS := Lib.hid hs1
  have HDD := Lib.hid hD
  have HIH := Lib.hid ih
  have HM := Lib.hid (show fldW (setW m) x s = setW m x.sels (dirsW x.dirs (argsW x.args (wrs [x.nm] (s)))) by unfold fldW alW; rw [hal, hse]; rfl)
  have hl5 : (setW m x.sels (dirsW x.dirs (argsW x.args (wrs [x.nm] (s))))).out.length ≤ 140737488355328 := by rw [← HM.out]; exact hlen
  have hl4 : (dirsW x.dirs (argsW x.args (wrs [x.nm] (s)))).out.length ≤ 140737488355328 := Nat.le_trans (setW_k (I := Mo (dirsW x.dirs (argsW x.args (wrs [x.nm] (s))))) (mo_wr _) m x.sels _ (Nat.le_refl _)) hl5
  have hl3 : (argsW x.args (wrs [x.nm] (s))).out.length ≤ 140737488355328 := Nat.le_trans (dirsW_k (I := Mo (argsW x.args (wrs [x.nm] (s)))) (mo_wr _) x.dirs _ (Nat.le_refl _)) hl4
  have hl2 : (wrs [x.nm] (s)).out.length ≤ 140737488355328 := Nat.le_trans (argsW_k (I := Mo (wrs [x.nm] (s))) (mo_wr _) x.args _ (Nat.le_refl _)) hl3
  have e1 : ((⟨x.al.toArray⟩ : ByteArray) == ⟨#[]⟩) = true := by rw [nm_empty, hal]
  have e2 : ((⟨x.al.toArray⟩ : ByteArray) != ⟨#[]⟩) = false := by rw [nm_nonempty, hal]; rfl
  have hsl : decide ((0 : Int) < (x.sels.length : Int)) = true := by
    rw [decide_eq_true_eq]; cases hq : x.sels with
    | nil => rw [hq] at hse; cases hse
    | cons _ _ => simp
  have hsl2 : decide (0 < x.sels.length) = true := by
    rw [decide_eq_true_eq]; cases hq : x.sels with
    | nil => rw [hq] at hse; cases hse
    | cons _ _ => simp
  have HL := Lib.hid (And.intro hl2 (And.intro hl3 (And.intro hl4 hl5)))
  have HW0 := Lib.hid ((Wk.refl h).alloc (.cells #[.int .i64 x.k, .string ⟨x.al.toArray⟩, .string ⟨x.nm.toArray⟩, .string ⟨x.on_.toArray⟩, .slice aa x.args.length ca, .slice ad x.dirs.length cd, .slice as7 x.sels.length cs7] 49))
  have HB0 := Lib.hid (show (w.alloc (.cells #[.int .i64 x.k, .string ⟨x.al.toArray⟩, .string ⟨x.nm.toArray⟩, .string ⟨x.on_.toArray⟩, .slice aa x.args.length ca, .slice ad x.dirs.length cd, .slice as7 x.sels.length cs7] 49)).heap[w.heap.size]? = some (.cells #[.int .i64 x.k, .string ⟨x.al.toArray⟩, .string ⟨x.nm.toArray⟩, .string ⟨x.on_.toArray⟩, .slice aa x.args.length ca, .slice ad x.dirs.length cd, .slice as7 x.sels.length cs7] 49 (0, 0)) from heap_alloc_new _ _)
  have hlR := h.lt
  have hbR : w.heap.size ≠ R := by omega
  clear h ha1 hd1 hs1 hD ih hlen hl2 hl3 hl4 hl5 hse
  generalize fldW (setW m) x s = RES at *
  show Calls Tryz.prog 147 #[.pointer (some ⟨R, 0, none⟩), .agg #[.int .i64 x.k, .string ⟨x.al.toArray⟩, .string ⟨x.nm.toArray⟩, .string ⟨x.on_.toArray⟩, .slice aa x.args.length ca, .slice ad x.dirs.length cd, .slice as7 x.sels.length cs7]] w _
  go_enter Tryz.func147, Tryz.ntmps147
  have hT := txOne (v := ⟨x.nm.toArray⟩) HW0.out
  have HCW := write_any (l := [⟨x.nm.toArray⟩]) (cap := 1) _ hT.1.1 hT.2 (show 1 ≤ 100 by decide) (Nat.le_refl _) HL.out.1
  have HCW : Calls Tryz.prog 69 #[.pointer (some ⟨R, 0, none⟩), .slice (some ⟨(w.alloc (.cells #[.int .i64 x.k, .string ⟨x.al.toArray⟩, .string ⟨x.nm.toArray⟩, .string ⟨x.on_.toArray⟩, .slice aa x.args.length ca, .slice ad x.dirs.length cd, .slice as7 x.sels.length cs7] 49)).heap.size, 0, none⟩) 1 1] _ _ := HCW
  rw [show (w.alloc (.cells #[.int .i64 x.k, .string ⟨x.al.toArray⟩, .string ⟨x.nm.toArray⟩, .string ⟨x.on_.toArray⟩, .slice aa x.args.length ca, .slice ad x.dirs.length cd, .slice as7 x.sels.length cs7] 49)).heap.size = w.heap.size + 1 by simp] at HCW
  have HT1 := Lib.hid hT.1
  clear hT
  go_wp2_with fail
  refine HCW.mono ?_
  rintro e w1 ⟨rfl, hk⟩
  have HW1 : Hid (Wk N R k (wrs [x.nm] (s)) w w1) := Lib.hid (HW0.out.trans (HT1.out.trans hk))
  have HB1 := Lib.hid ((HT1.out.trans hk).box HB0.out (by decide) hbR)
  obtain ⟨q0, q1, q2, q3, q4, q5, q6, qf, hbl⟩ := bk7 HB1.out
  clear hk
  clear HCW HT1
  have HC := pArgsW_any w1 HW1.out.1 (RowD.step argOk (fun _ h => h) (fun b o hb => World.cell?_of_block (a := ⟨b, o, none⟩) (HW1.out.2.1.block b (HDD.out b hb))) HA.out) HDD.out HL.out.2.1
  go_wp2_with fail
  refine HC.mono ?_
  rintro e w2 ⟨rfl, hk⟩
  have HW2 : Hid (Wk N R k (argsW x.args (wrs [x.nm] (s))) w w2) := Lib.hid (HW1.out.trans hk)
  have HB2 := Lib.hid (hk.box HB1.out (by decide) hbR)
  clear q0 q1 q2 q3 q4 q5 q6 qf hbl
  obtain ⟨q0, q1, q2, q3, q4, q5, q6, qf, hbl⟩ := bk7 HB2.out
  clear hk
  clear HC
  have HC := pDirsW_any w2 HW2.out.1 (RowD.step dirOk (fun _ h => h) (fun b o hb => World.cell?_of_block (a := ⟨b, o, none⟩) (HW2.out.2.1.block b (HDD.out b hb))) HD.out) HDD.out HL.out.2.2.1
  go_wp2_with fail
  refine HC.mono ?_
  rintro e w3 ⟨rfl, hk⟩
  have HW3 : Hid (Wk N R k (dirsW x.dirs (argsW x.args (wrs [x.nm] (s)))) w w3) := Lib.hid (HW2.out.trans hk)
  have HB3 := Lib.hid (hk.box HB2.out (by decide) hbR)
  clear q0 q1 q2 q3 q4 q5 q6 qf hbl
  obtain ⟨q0, q1, q2, q3, q4, q5, q6, qf, hbl⟩ := bk7 HB3.out
  clear hk
  clear HC
  have HC := HIH.out N R k m D x.sels _ _ w3 hm hkn HW3.out.1 (RowD.step (selOk n) (fun _ h => h) (fun b o hb => World.cell?_of_block (a := ⟨b, o, none⟩) (HW3.out.2.1.block b (HDD.out b hb))) HS.out) HDD.out HL.out.2.2.2
  go_wp2_with fail
  refine HC.mono ?_
  rintro e w4 ⟨rfl, hk⟩
  have HW4 : Hid (Wk N R k (setW m x.sels (dirsW x.dirs (argsW x.args (wrs [x.nm] (s))))) w w4) := Lib.hid (HW3.out.trans hk)
  have HB4 := Lib.hid (hk.box HB3.out (by decide) hbR)
  clear q0 q1 q2 q3 q4 q5 q6 qf hbl
  obtain ⟨q0, q1, q2, q3, q4, q5, q6, qf, hbl⟩ := bk7 HB4.out
  clear hk
  clear HC
  go_wp2_with fail
  go_end0
  rw [HM.out]
  exact ⟨rfl, HW4.out⟩

set_option maxHeartbeats 1500000 in
set_option maxRecDepth 100000 in
theorem pFieldW_10 {N R k : Nat} {n m : Nat} {D : Nat → Prop} {x : SelT} {cs : List Value} {s : Ws} (w : World) (ih : SetAt n) (hm : n < m) (hkn : k + n < 65536) (h : Wv N R k s w) (hE : SelE (n + 1) w D x cs) (hD : ∀ b, D b → b < N) (hlen : (fldW (setW m) x s).out.length ≤ 140737488355328) (hal : x.al.isEmpty = false) (hse : x.sels.isEmpty = true) : Calls Tryz.prog 147 #[.pointer (some ⟨R, 0, none⟩), .agg cs.toArray] w (WAns N R k (fldW (setW m) x s) w) := by
  obtain ⟨hz1, va, vd, vs, rfl, ha1, hd1, hs1⟩ := hE
  obtain ⟨aa, ca, rfl⟩ := ha1.shape
  obtain ⟨ad, cd, rfl⟩ := hd1.shape
  obtain ⟨as7, cs7, rfl⟩ := hs1.shape
  have HA := Lib.hid ha1
  have HD := Lib.hid hd1
  have HS := Lib.hid hs1
  have HDD := Lib.hid hD
  have HIH := Lib.hid ih
  have HM := Lib.hid (show fldW (setW m) x s = dirsW x.dirs (argsW x.args (wrs [x.nm] (wrs [x.al, [58]] s))) by unfold fldW alW; rw [hal, hse]; rfl)
  have hl5 : (dirsW x.dirs (argsW x.args (wrs [x.nm] (wrs [x.al, [58]] s)))).out.length ≤ 140737488355328 := by rw [← HM.out]; exact hlen
  have hl4 := hl5
  have hl3 : (argsW x.args (wrs [x.nm] (wrs [x.al, [58]] s))).out.length ≤ 140737488355328 := Nat.le_trans (dirsW_k (I := Mo (argsW x.args (wrs [x.nm] (wrs [x.al, [58]] s)))) (mo_wr _) x.dirs _ (Nat.le_refl _)) hl4
  have hl2 : (wrs [x.nm] (wrs [x.al, [58]] s)).out.length ≤ 140737488355328 := Nat.le_trans (argsW_k (I := Mo (wrs [x.nm] (wrs [x.al, [58]] s))) (mo_wr _) x.args _ (Nat.le_refl _)) hl3
  have hl1 : (wrs [x.al, [58]] s).out.length ≤ 140737488355328 := Nat.le_trans (wrs_k (I := Mo (wrs [x.al, [58]] s)) (mo_wr _) [x.nm] _ (Nat.le_refl _)) hl2
  have e1 : ((⟨x.al.toArray⟩ : ByteArray) == ⟨#[]⟩) = false := by rw [nm_empty, hal]
  have e2 : ((⟨x.al.toArray⟩ : ByteArray) != ⟨#[]⟩) = true := by rw [nm_nonempty, hal]; rfl
  have hsl : decide ((0 : Int) < (x.sels.length : Int)) = false := by
    rw [List.isEmpty_iff.1 hse]; rfl
  have hsl2 : decide (0 < x.sels.length) = false := by
    rw [List.isEmpty_iff.1 hse]; rfl
  have HL := Lib.hid (And.intro hl2 (And.intro hl3 (And.intro hl4 hl5)))
  have HL1 := Lib.hid hl1
  clear hl1
  have HW0 := Lib.hid ((Wk.refl h).alloc (.cells #[.int .i64 x.k, .string ⟨x.al.toArray⟩, .string ⟨x.nm.toArray⟩, .string ⟨x.on_.toArray⟩, .slice aa x.args.length ca, .slice ad x.dirs.length cd, .slice as7 x.sels.length cs7] 49))
  have HB0 := Lib.hid (show (w.alloc (.cells #[.int .i64 x.k, .string ⟨x.al.toArray⟩, .string ⟨x.nm.toArray⟩, .string ⟨x.on_.toArray⟩, .slice aa x.args.length ca, .slice ad x.dirs.length cd, .slice as7 x.sels.length cs7] 49)).heap[w.heap.size]? = some (.cells #[.int .i64 x.k, .string ⟨x.al.toArray⟩, .string ⟨x.nm.toArray⟩, .string ⟨x.on_.toArray⟩, .slice aa x.args.length ca, .slice ad x.dirs.length cd, .slice as7 x.sels.length cs7] 49 (0, 0)) from heap_alloc_new _ _)
  have hlR := h.lt
  have hbR : w.heap.size ≠ R := by omega
  clear h ha1 hd1 hs1 hD ih hlen hl2 hl3 hl4 hl5 hse
  generalize fldW (setW m) x s = RES at *
  show Calls Tryz.prog 147 #[.pointer (some ⟨R, 0, none⟩), .agg #[.int .i64 x.k, .string ⟨x.al.toArray⟩, .string ⟨x.nm.toArray⟩, .string ⟨x.on_.toArray⟩, .slice aa x.args.length ca, .slice ad x.dirs.length cd, .slice as7 x.sels.length cs7]] w _
  go_enter Tryz.func147, Tryz.ntmps147
  have hT := txTwo (v := ⟨x.al.toArray⟩) (u := ⟨#[58]⟩) HW0.out
  have HCW := write_any (l := [⟨x.al.toArray⟩, ⟨#[58]⟩]) (cap := 2) _ hT.1.1 hT.2 (show 2 ≤ 100 by decide) (Nat.le_refl _) HL1.out
  have HCW : Calls Tryz.prog 69 #[.pointer (some ⟨R, 0, none⟩), .slice (some ⟨(w.alloc (.cells #[.int .i64 x.k, .string ⟨x.al.toArray⟩, .string ⟨x.nm.toArray⟩, .string ⟨x.on_.toArray⟩, .slice aa x.args.length ca, .slice ad x.dirs.length cd, .slice as7 x.sels.length cs7] 49)).heap.size, 0, none⟩) 2 2] _ _ := HCW
  rw [show (w.alloc (.cells #[.int .i64 x.k, .string ⟨x.al.toArray⟩, .string ⟨x.nm.toArray⟩, .string ⟨x.on_.toArray⟩, .slice aa x.args.length ca, .slice ad x.dirs.length cd, .slice as7 x.sels.length cs7] 49)).heap.size = w.heap.size + 1 by simp] at HCW
  have HT1 := Lib.hid hT.1
  clear hT
  go_wp2_with fail
  refine HCW.mono ?_
  rintro e w1 ⟨rfl, hk⟩
  have HW1 : Hid (Wk N R k (wrs [x.al, [58]] s) w w1) := Lib.hid (HW0.out.trans (HT1.out.trans hk))
  have HB1 := Lib.hid ((HT1.out.trans hk).box HB0.out (by decide) hbR)
  obtain ⟨q0, q1, q2, q3, q4, q5, q6, qf, hbl⟩ := bk7 HB1.out
  clear hk
  clear HCW HT1
  have hT := txOne (v := ⟨x.nm.toArray⟩) HW1.out
  have HCW := write_any (l := [⟨x.nm.toArray⟩]) (cap := 1) _ hT.1.1 hT.2 (show 1 ≤ 100 by decide) (Nat.le_refl _) HL.out.1
  have HCW : Calls Tryz.prog 69 #[.pointer (some ⟨R, 0, none⟩), .slice (some ⟨w1.heap.size, 0, none⟩) 1 1] _ _ := HCW
  have HT1 := Lib.hid hT.1
  clear hT
  go_wp2_with fail
  refine HCW.mono ?_
  rintro e w2 ⟨rfl, hk⟩
  have HW2 : Hid (Wk N R k (wrs [x.nm] (wrs [x.al, [58]] s)) w w2) := Lib.hid (HW1.out.trans (HT1.out.trans hk))
  have HB2 := Lib.hid ((HT1.out.trans hk).box HB1.out (by decide) hbR)
  clear q0 q1 q2 q3 q4 q5 q6 qf hbl
  obtain ⟨q0, q1, q2, q3, q4, q5, q6, qf, hbl⟩ := bk7 HB2.out
  clear hk
  clear HCW HT1
  have HC := pArgsW_any w2 HW2.out.1 (RowD.step argOk (fun _ h => h) (fun b o hb => World.cell?_of_block (a := ⟨b, o, none⟩) (HW2.out.2.1.block b (HDD.out b hb))) HA.out) HDD.out HL.out.2.1
  go_wp2_with fail
  refine HC.mono ?_
  rintro e w3 ⟨rfl, hk⟩
  have HW3 : Hid (Wk N R k (argsW x.args (wrs [x.nm] (wrs [x.al, [58]] s))) w w3) := Lib.hid (HW2.out.trans hk)
  have HB3 := Lib.hid (hk.box HB2.out (by decide) hbR)
  clear q0 q1 q2 q3 q4 q5 q6 qf hbl
  obtain ⟨q0, q1, q2, q3, q4, q5, q6, qf, hbl⟩ := bk7 HB3.out
  clear hk
  clear HC
  have HC := pDirsW_any w3 HW3.out.1 (RowD.step dirOk (fun _ h => h) (fun b o hb => World.cell?_of_block (a := ⟨b, o, none⟩) (HW3.out.2.1.block b (HDD.out b hb))) HD.out) HDD.out HL.out.2.2.1
  go_wp2_with fail
  refine HC.mono ?_
  rintro e w4 ⟨rfl, hk⟩
  have HW4 : Hid (Wk N R k (dirsW x.dirs (argsW x.args (wrs [x.nm] (wrs [x.al, [58]] s)))) w w4) := Lib.hid (HW3.out.trans hk)
  have HB4 := Lib.hid (hk.box HB3.out (by decide) hbR)
  clear q0 q1 q2 q3 q4 q5 q6 qf hbl
  obtain ⟨q0, q1, q2, q3, q4, q5, q6, qf, hbl⟩ := bk7 HB4.out
  clear hk
  clear HC
  go_wp2_with fail
  go_end0
  rw [HM.out]
  exact ⟨rfl, HW4.out⟩

set_option maxHeartbeats 1500000 in
set_option maxRecDepth 100000 in
theorem pFieldW_11 {N R k : Nat} {n m : Nat} {D : Nat → Prop} {x : SelT} {cs : List Value} {s : Ws} (w : World) (ih : SetAt n) (hm : n < m) (hkn : k + n < 65536) (h : Wv N R k s w) (hE : SelE (n + 1) w D x cs) (hD : ∀ b, D b → b < N) (hlen : (fldW (setW m) x s).out.length ≤ 140737488355328) (hal : x.al.isEmpty = false) (hse : x.sels.isEmpty = false) : Calls Tryz.prog 147 #[.pointer (some ⟨R, 0, none⟩), .agg cs.toArray] w (WAns N R k (fldW (setW m) x s) w) := by
  obtain ⟨hz1, va, vd, vs, rfl, ha1, hd1, hs1⟩ := hE
  obtain ⟨aa, ca, rfl⟩ := ha1.shape
  obtain ⟨ad, cd, rfl⟩ := hd1.shape
  obtain ⟨as7, cs7, rfl⟩ := hs1.shape
  have HA := Lib.hid ha1
  have HD := Lib.hid hd1
  have HS := Lib.hid hs1
  have HDD := Lib.hid hD
  have HIH := Lib.hid ih
  have HM := Lib.hid (show fldW (setW m) x s = setW m x.sels (dirsW x.dirs (argsW x.args (wrs [x.nm] (wrs [x.al, [58]] s)))) by unfold fldW alW; rw [hal, hse]; rfl)
  have hl5 : (setW m x.sels (dirsW x.dirs (argsW x.args (wrs [x.nm] (wrs [x.al, [58]] s))))).out.length ≤ 140737488355328 := by rw [← HM.out]; exact hlen
  have hl4 : (dirsW x.dirs (argsW x.args (wrs [x.nm] (wrs [x.al, [58]] s)))).out.length ≤ 140737488355328 := Nat.le_trans (setW_k (I := Mo (dirsW x.dirs (argsW x.args (wrs [x.nm] (wrs [x.al, [58]] s))))) (mo_wr _) m x.sels _ (Nat.le_refl _)) hl5
  have hl3 : (argsW x.args (wrs [x.nm] (wrs [x.al, [58]] s))).out.length ≤ 140737488355328 := Nat.le_trans (dirsW_k (I := Mo (argsW x.args (wrs [x.nm] (wrs [x.al, [58]] s)))) (mo_wr _) x.dirs _ (Nat.le_refl _)) hl4
  have hl2 : (wrs [x.nm] (wrs [x.al, [58]] s)).out.length ≤ 140737488355328 := Nat.le_trans (argsW_k (I := Mo (wrs [x.nm] (wrs [x.al, [58]] s))) (mo_wr _) x.args _ (Nat.le_refl _)) hl3
  have hl1 : (wrs [x.al, [58]] s).out.length ≤ 140737488355328 := Nat.le_trans (wrs_k (I := Mo (wrs [x.al, [58]] s)) (mo_wr _) [x.nm] _ (Nat.le_refl _)) hl2
  have e1 : ((⟨x.al.toArray⟩ : ByteArray) == ⟨#[]⟩) = false := by rw [nm_empty, hal]
  have e2 : ((⟨x.al.toArray⟩ : ByteArray) != ⟨#[]⟩) = true := by rw [nm_nonempty, hal]; rfl
  have hsl : decide ((0 : Int) < (x.sels.length : Int)) = true := by
    rw [decide_eq_true_eq]; cases hq : x.sels with
    | nil => rw [hq] at hse; cases hse
    | cons _ _ => simp
  have hsl2 : decide (0 < x.sels.length) = true := by
    rw [decide_eq_true_eq]; cases hq : x.sels with
    | nil => rw [hq] at hse; cases hse
    | cons _ _ => simp
  have HL := Lib.hid (And.intro hl2 (And.intro hl3 (And.intro hl4 hl5)))
  have HL1 := Lib.hid hl1
  clear hl1
  have HW0 := Lib.hid ((Wk.refl h).alloc (.cells #[.int .i64 x.k, .string ⟨x.al.toArray⟩, .string ⟨x.nm.toArray⟩, .string ⟨x.on_.toArray⟩, .slice aa x.args.length ca, .slice ad x.dirs.length cd, .slice as7 x.sels.length cs7] 49))
  have HB0 := Lib.hid (show (w.alloc (.cells #[.int .i64 x.k, .string ⟨x.al.toArray⟩, .string ⟨x.nm.toArray⟩, .string ⟨x.on_.toArray⟩, .slice aa x.args.length ca, .slice ad x.dirs.length cd, .slice as7 x.sels.length cs7] 49)).heap[w.heap.size]? = some (.cells #[.int .i64 x.k, .string ⟨x.al.toArray⟩, .string ⟨x.nm.toArray⟩, .string ⟨x.on_.toArray⟩, .slice aa x.args.length ca, .slice ad x.dirs.length cd, .slice as7 x.sels.length cs7] 49 (0, 0)) from heap_alloc_new _ _)
  have hlR := h.lt
  have hbR : w.heap.size ≠ R := by omega
  clear h ha1 hd1 hs1 hD ih hlen hl2 hl3 hl4 hl5 hse
  generalize fldW (setW m) x s = RES at *
  show Calls Tryz.prog 147 #[.pointer (some ⟨R, 0, none⟩), .agg #[.int .i64 x.k, .string ⟨x.al.toArray⟩, .string ⟨x.nm.toArray⟩, .string ⟨x.on_.toArray⟩, .slice aa x.args.length ca, .slice ad x.dirs.length cd, .slice as7 x.sels.length cs7]] w _
  go_enter Tryz.func147, Tryz.ntmps147
  have hT := txTwo (v := ⟨x.al.toArray⟩) (u := ⟨#[58]⟩) HW0.out
  have HCW := write_any (l := [⟨x.al.toArray⟩, ⟨#[58]⟩]) (cap := 2) _ hT.1.1 hT.2 (show 2 ≤ 100 by decide) (Nat.le_refl _) HL1.out
  have HCW : Calls Tryz.prog 69 #[.pointer (some ⟨R, 0, none⟩), .slice (some ⟨(w.alloc (.cells #[.int .i64 x.k, .string ⟨x.al.toArray⟩, .string ⟨x.nm.toArray⟩, .string ⟨x.on_.toArray⟩, .slice aa x.args.length ca, .slice ad x.dirs.length cd, .slice as7 x.sels.length cs7] 49)).heap.size, 0, none⟩) 2 2] _ _ := HCW
  rw [show (w.alloc (.cells #[.int .i64 x.k, .string ⟨x.al.toArray⟩, .string ⟨x.nm.toArray⟩, .string ⟨x.on_.toArray⟩, .slice aa x.args.length ca, .slice ad x.dirs.length cd, .slice as7 x.sels.length cs7] 49)).heap.size = w.heap.size + 1 by simp] at HCW
  have HT1 := Lib.hid hT.1
  clear hT
  go_wp2_with fail
  refine HCW.mono ?_
  rintro e w1 ⟨rfl, hk⟩
  have HW1 : Hid (Wk N R k (wrs [x.al, [58]] s) w w1) := Lib.hid (HW0.out.trans (HT1.out.trans hk))
  have HB1 := Lib.hid ((HT1.out.trans hk).box HB0.out (by decide) hbR)
  obtain ⟨q0, q1, q2, q3, q4, q5, q6, qf, hbl⟩ := bk7 HB1.out
  clear hk
  clear HCW HT1
  have hT := txOne (v := ⟨x.nm.toArray⟩) HW1.out
  have HCW := write_any (l := [⟨x.nm.toArray⟩]) (cap := 1) _ hT.1.1 hT.2 (show 1 ≤ 100 by decide) (Nat.le_refl _) HL.out.1
  have HCW : Calls Tryz.prog 69 #[.pointer (some ⟨R, 0, none⟩), .slice (some ⟨w1.heap.size, 0, none⟩) 1 1] _ _ := HCW
  have HT1 := Lib.hid hT.1
  clear hT
  go_wp2_with fail
  refine HCW.mono ?_
  rintro e w2 ⟨rfl, hk⟩
  have HW2 : Hid (Wk N R k (wrs [x.nm] (wrs [x.al, [58]] s)) w w2) := Lib.hid (HW1.out.trans (HT1.out.trans hk))
  have HB2 := Lib.hid ((HT1.out.trans hk).box HB1.out (by decide) hbR)
  clear q0 q1 q2 q3 q4 q5 q6 qf hbl
  obtain ⟨q0, q1, q2, q3, q4, q5, q6, qf, hbl⟩ := bk7 HB2.out
  clear hk
  clear HCW HT1
  have HC := pArgsW_any w2 HW2.out.1 (RowD.step argOk (fun _ h => h) (fun b o hb => World.cell?_of_block (a := ⟨b, o, none⟩) (HW2.out.2.1.block b (HDD.out b hb))) HA.out) HDD.out HL.out.2.1
  go_wp2_with fail
  refine HC.mono ?_
  rintro e w3 ⟨rfl, hk⟩
  have HW3 : Hid (Wk N R k (argsW x.args (wrs [x.nm] (wrs [x.al, [58]] s))) w w3) := Lib.hid (HW2.out.trans hk)
  have HB3 := Lib.hid (hk.box HB2.out (by decide) hbR)
  clear q0 q1 q2 q3 q4 q5 q6 qf hbl
  obtain ⟨q0, q1, q2, q3, q4, q5, q6, qf, hbl⟩ := bk7 HB3.out
  clear hk
  clear HC
  have HC := pDirsW_any w3 HW3.out.1 (RowD.step dirOk (fun _ h => h) (fun b o hb => World.cell?_of_block (a := ⟨b, o, none⟩) (HW3.out.2.1.block b (HDD.out b hb))) HD.out) HDD.out HL.out.2.2.1
  go_wp2_with fail
  refine HC.mono ?_
  rintro e w4 ⟨rfl, hk⟩
  have HW4 : Hid (Wk N R k (dirsW x.dirs (argsW x.args (wrs [x.nm] (wrs [x.al, [58]] s)))) w w4) := Lib.hid (HW3.out.trans hk)
  have HB4 := Lib.hid (hk.box HB3.out (by decide) hbR)
  clear q0 q1 q2 q3 q4 q5 q6 qf hbl
  obtain ⟨q0, q1, q2, q3, q4, q5, q6, qf, hbl⟩ := bk7 HB4.out
  clear hk
  clear HC
  have HC := HIH.out N R k m D x.sels _ _ w4 hm hkn HW4.out.1 (RowD.step (selOk n) (fun _ h => h) (fun b o hb => World.cell?_of_block (a := ⟨b, o, none⟩) (HW4.out.2.1.block b (HDD.out b hb))) HS.out) HDD.out HL.out.2.2.2
  go_wp2_with fail
  refine HC.mono ?_
  rintro e w5 ⟨rfl, hk⟩
  have HW5 : Hid (Wk N R k (setW m x.sels (dirsW x.dirs (argsW x.args (wrs [x.nm] (wrs [x.al, [58]] s))))) w w5) := Lib.hid (HW4.out.trans hk)
  have HB5 := Lib.hid (hk.box HB4.out (by decide) hbR)
  clear q0 q1 q2 q3 q4 q5 q6 qf hbl
  obtain ⟨q0, q1, q2, q3, q4, q5, q6, qf, hbl⟩ := bk7 HB5.out
  clear hk
  clear HC
  go_wp2_with fail
  go_end0
  rw [HM.out]
  exact ⟨rfl, HW5.out⟩

set_option maxHeartbeats 1500000 in
set_option maxRecDepth 100000 in
theorem pFieldW_any {N R k : Nat} {n m : Nat} {D : Nat → Prop} {x : SelT} {cs : List Value} {s : Ws} (w : World) (ih : SetAt n) (hm : n < m) (hkn : k + n < 65536) (h : Wv N R k s w) (hE : SelE (n + 1) w D x cs) (hD : ∀ b, D b → b < N) (hlen : (fldW (setW m) x s).out.length ≤ 140737488355328) : Calls Tryz.prog 147 #[.pointer (some ⟨R, 0, none⟩), .agg cs.toArray] w (WAns N R k (fldW (setW m) x s) w) := by
  cases hal : x.al.isEmpty <;> cases hse : x.sels.isEmpty
  · exact pFieldW_11 w ih hm hkn h hE hD hlen hal hse
  · exact pFieldW_10 w ih hm hkn h hE hD hlen hal hse
  · exact pFieldW_01 w ih hm hkn h hE hD hlen hal hse
  · exact pFieldW_00 w ih hm hkn h hE hD hlen hal hse

end Go.Proofs.YtkfllppggjhhmaaGreatDoor
