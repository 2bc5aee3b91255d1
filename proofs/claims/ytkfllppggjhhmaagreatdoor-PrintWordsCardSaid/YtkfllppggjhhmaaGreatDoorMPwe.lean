/-
  print's writer: operations, fragments.
-/
import Derived.Test.YtkfllppggjhhmaaGreatDoorMPwd
import Derived.Test.YtkfllppggjhhmaaGreatDoorMPsvFrag
namespace Go.Proofs.YtkfllppggjhhmaaGreatDoor
open Go.RowKit
set_option linter.unusedVariables false

set_option maxHeartbeats 3000000 in
set_option maxRecDepth 100000 in
theorem brVar_any {N R k : Nat} {D : Nat → Prop} {xs : List VarT} {v : Value} {s : Ws} (P : VarT → Ws → Ws) (w : World) (h : Wv N R k s w) (hr : RowD VarE 7 w D xs v) (hD : ∀ b, D b → b < N)
    (hF : ∀ x ∈ xs, ∀ s' cs W, Wv N R k s' W → Below N w W → VarE W D x cs → (P x s').out.length ≤ 140737488355328 → Calls Tryz.prog 110 #[.pointer (some ⟨R, 0, none⟩), .agg cs.toArray] W (WAns N R k (P x s') W))
    (hM : ∀ s0 x s', Mo s0 s' → Mo s0 (P x s')) (hlen : (brW P xs s).out.length ≤ 140737488355328) :
    Calls Tryz.prog 109 #[.pointer (some ⟨R, 0, none⟩), .func (.func 110) #[.pointer (some ⟨R, 0, none⟩)] #[], v] w (WAns N R k (brW P xs s) w) := by
  obtain ⟨a, cap, hv⟩ := hr.shape
  by_cases h0 : xs.length = 0
  · have HK := Lib.hid (Wk.refl h)
    have HE := Lib.hid (show brW P xs s = s by rw [List.eq_nil_of_length_eq_zero h0]; rfl)
    rw [h0] at hv
    subst hv
    clear hF hM hlen hr hD h h0
    generalize brW P xs s = RES at *
    go_enter Tryz.func109, Tryz.ntmps109
    go_wp2_with fail
    refine bodyPost_ret (v := .tuple #[]) (results_none rfl _ _ _) rfl ?_
    rw [HE.out]
    exact ⟨rfl, HK.out⟩
  · have he : ((xs.length : Int) == 0) = false := by rw [beq_eq_false_iff_ne]; omega
    have he2 : (xs.length == 0) = false := by rw [beq_eq_false_iff_ne]; omega
    have HM0 := Lib.hid (show brW P xs s = wrs [[41]] (svW P [32] true xs (wrs [[40]] s)) by
      unfold brW
      rw [if_neg (by cases xs with
        | nil => exact absurd rfl h0
        | cons _ _ => exact Bool.false_ne_true)]
      rfl)
    have hl3 : (wrs [[41]] (svW P [32] true xs (wrs [[40]] s))).out.length ≤ 140737488355328 := by rw [← HM0.out]; exact hlen
    have hl2 : (svW P [32] true xs (wrs [[40]] s)).out.length ≤ 140737488355328 := Nat.le_trans (wrs_k (I := Mo (svW P [32] true xs (wrs [[40]] s))) (mo_wr _) [[41]] _ (Nat.le_refl _)) hl3
    have hl1 : (wrs [[40]] s).out.length ≤ 140737488355328 := Nat.le_trans (svW_k (I := Mo (wrs [[40]] s)) (mo_wr _) (fun x s' h => hM _ x s' h) _ _ _ _ (Nat.le_refl _)) hl2
    have HR := Lib.hid hr
    have HF := Lib.hid hF
    have HD := Lib.hid hD
    have HMO := Lib.hid hM
    have HL2 := Lib.hid hl2
    have HL3 := Lib.hid hl3
    subst hv
    have hT := txOne (v := ⟨#[40]⟩) (Wk.refl h)
    have HCW := write_any (l := [⟨#[40]⟩]) (cap := 1) _ hT.1.1 hT.2 (show 1 ≤ 100 by decide) (Nat.le_refl _) hl1
    have HCW : Calls Tryz.prog 69 #[.pointer (some ⟨R, 0, none⟩), .slice (some ⟨w.heap.size, 0, none⟩) 1 1] _ _ := HCW
    have HT1 := Lib.hid hT.1
    clear hT
    clear hr hF hD hM hlen h hl1 hl2 hl3 h0
    generalize brW P xs s = RES at *
    go_enter Tryz.func109, Tryz.ntmps109
    go_wp2_with fail
    refine HCW.mono ?_
    rintro e w2 ⟨rfl, hk2⟩
    have HW2 : Hid (Wk N R k (wrs [[40]] s) w w2) := Lib.hid (HT1.out.trans hk2)
    have HC := svVar_any P ⟨#[32]⟩ w2 HW2.out.1 (RowD.step varOk (fun _ h => h) (fun b o hb => World.cell?_of_block (a := ⟨b, o, none⟩) (HW2.out.2.1.block b (HD.out b hb))) HR.out) HD.out (fun x hx s' cs W hv hb hE hl => HF.out x hx s' cs W hv (HW2.out.2.1.trans hb) hE hl) HMO.out HL2.out
    clear hk2 HCW
    go_wp2_with fail
    refine HC.mono ?_
    rintro e w3 ⟨rfl, hk3⟩
    have HW3 : Hid (Wk N R k (svW P [32] true xs (wrs [[40]] s)) w w3) := Lib.hid (HW2.out.trans hk3)
    have hT := txOne (v := ⟨#[41]⟩) HW3.out
    have HCW := write_any (l := [⟨#[41]⟩]) (cap := 1) _ hT.1.1 hT.2 (show 1 ≤ 100 by decide) (Nat.le_refl _) HL3.out
    have HCW : Calls Tryz.prog 69 #[.pointer (some ⟨R, 0, none⟩), .slice (some ⟨w3.heap.size, 0, none⟩) 1 1] _ _ := HCW
    clear HT1
    have HT1 := Lib.hid hT.1
    clear hT
    clear hk3 HC
    go_wp2_with fail
    refine HCW.mono ?_
    rintro e w4 ⟨rfl, hk4⟩
    have HW4 : Hid (Wk N R k (wrs [[41]] (svW P [32] true xs (wrs [[40]] s))) w w4) := Lib.hid (HW3.out.trans (HT1.out.trans hk4))
    clear hk4 HCW
    go_wp2_with fail
    go_end0
    rw [HM0.out]
    exact ⟨rfl, HW4.out⟩

set_option maxHeartbeats 3000000 in
set_option maxRecDepth 100000 in
theorem pOpW_00 {N R k : Nat} {n : Nat} {D : Nat → Prop} {x : OpT} {cs : List Value} {s : Ws} (w : World) (hn : n < 100) (hk0 : k = 0) (h : Wv N R k s w) (hE : OpE w D x cs) (hdp : dpS n x.sels = true) (hD : ∀ b, D b → b < N) (hlen : (opW x s).out.length ≤ 140737488355328) (hmu : x.mut_ = false) (hnm : x.nm.isEmpty = true) : Calls Tryz.prog 68 #[.pointer (some ⟨R, 0, none⟩), .agg cs.toArray] w (WAns N R k (opW x s) w) := by
  obtain ⟨hz1, vv, vd, vs, rfl, ha1, hd1, hs1⟩ := hE
  obtain ⟨aa, ca, rfl⟩ := ha1.shape
  obtain ⟨ad, cd, rfl⟩ := hd1.shape
  obtain ⟨n0, hs0⟩ := hs1
  have hs1 := selE_dp n n0 _ _ hdp hs0
  obtain ⟨as5, cs5, rfl⟩ := hs1.shape
  have HA := Lib.hid ha1
  have HD := Lib.hid hd1
  have HS := Lib.hid hs1
  have HDD := Lib.hid hD
  subst hk0
  have HM := Lib.hid (show opW x s = setW 100 x.sels (dirsW x.dirs (brW varW x.vars (wrs [queryS] s))) by unfold opW opnW; rw [hmu, hnm]; rfl)
  have hl5 : (setW 100 x.sels (dirsW x.dirs (brW varW x.vars (wrs [queryS] s)))).out.length ≤ 140737488355328 := by rw [← HM.out]; exact hlen
  have hl4 : (dirsW x.dirs (brW varW x.vars (wrs [queryS] s))).out.length ≤ 140737488355328 := Nat.le_trans (setW_k (I := Mo (dirsW x.dirs (brW varW x.vars (wrs [queryS] s)))) (mo_wr _) 100 x.sels _ (Nat.le_refl _)) hl5
  have hl3 : (brW varW x.vars (wrs [queryS] s)).out.length ≤ 140737488355328 := Nat.le_trans (dirsW_k (I := Mo (brW varW x.vars (wrs [queryS] s))) (mo_wr _) x.dirs _ (Nat.le_refl _)) hl4
  have hl2 : (wrs [queryS] s).out.length ≤ 140737488355328 := Nat.le_trans (brW_k (I := Mo (wrs [queryS] s)) (mo_wr _) (varW_k (mo_wr _)) x.vars _ (Nat.le_refl _)) hl3
  have hl1 := hl2
  have e1 : ((⟨x.nm.toArray⟩ : ByteArray) == ⟨#[]⟩) = true := by rw [nm_empty, hnm]
  have e2 : ((⟨x.nm.toArray⟩ : ByteArray) != ⟨#[]⟩) = false := by rw [nm_nonempty, hnm]; rfl
  have HL := Lib.hid (And.intro hl1 (And.intro hl2 (And.intro hl3 (And.intro hl4 hl5))))
  have HW0 := Lib.hid ((Wk.refl h).alloc (.cells #[.bool x.mut_, .string ⟨x.nm.toArray⟩, .slice aa x.vars.length ca, .slice ad x.dirs.length cd, .slice as5 x.sels.length cs5] 45))
  have HB0 := Lib.hid (show (w.alloc (.cells #[.bool x.mut_, .string ⟨x.nm.toArray⟩, .slice aa x.vars.length ca, .slice ad x.dirs.length cd, .slice as5 x.sels.length cs5] 45)).heap[w.heap.size]? = some (.cells #[.bool x.mut_, .string ⟨x.nm.toArray⟩, .slice aa x.vars.length ca, .slice ad x.dirs.length cd, .slice as5 x.sels.length cs5] 45 (0, 0)) from heap_alloc_new _ _)
  have hlR := h.lt
  have hbR : w.heap.size ≠ R := by omega
  clear h ha1 hd1 hs1 hs0 hdp hD hlen hl1 hl2 hl3 hl4 hl5
  generalize opW x s = RES at *
  rw [hmu] at HB0 HW0
  rw [hmu]
  show Calls Tryz.prog 68 #[.pointer (some ⟨R, 0, none⟩), .agg #[.bool false, .string ⟨x.nm.toArray⟩, .slice aa x.vars.length ca, .slice ad x.dirs.length cd, .slice as5 x.sels.length cs5]] w _
  go_enter Tryz.func68, Tryz.ntmps68
  have hT := txOne (v := ⟨#[113, 117, 101, 114, 121]⟩) HW0.out
  have HCW := write_any (l := [⟨#[113, 117, 101, 114, 121]⟩]) (cap := 1) _ hT.1.1 hT.2 (show 1 ≤ 100 by decide) (Nat.le_refl _) HL.out.1
  have HCW : Calls Tryz.prog 69 #[.pointer (some ⟨R, 0, none⟩), .slice (some ⟨(w.alloc (.cells #[.bool false, .string ⟨x.nm.toArray⟩, .slice aa x.vars.length ca, .slice ad x.dirs.length cd, .slice as5 x.sels.length cs5] 45)).heap.size, 0, none⟩) 1 1] _ _ := HCW
  rw [show (w.alloc (.cells #[.bool false, .string ⟨x.nm.toArray⟩, .slice aa x.vars.length ca, .slice ad x.dirs.length cd, .slice as5 x.sels.length cs5] 45)).heap.size = w.heap.size + 1 by simp] at HCW
  have HT1 := Lib.hid hT.1
  clear hT
  go_wp2_with fail
  refine HCW.mono ?_
  rintro e w1 ⟨rfl, hk⟩
  have HW1 : Hid (Wk N R 0 (wrs [queryS] s) w w1) := Lib.hid (HW0.out.trans (HT1.out.trans hk))
  have HB1 := Lib.hid ((HT1.out.trans hk).box HB0.out (by decide) hbR)
  obtain ⟨q0, q1, q2, q3, q4, qf, hbl⟩ := bk5 HB1.out
  clear hk
  clear HCW HT1
  have HC := brVar_any varW w1 HW1.out.1 (RowD.step varOk (fun _ h => h) (fun b o hb => World.cell?_of_block (a := ⟨b, o, none⟩) (HW1.out.2.1.block b (HDD.out b hb))) HA.out) HDD.out (fun x _ s' cs W hv hb hE hl => pVarW_any W hv hE HDD.out hl) (fun s0 x s' h => varW_k (mo_wr s0) x s' h) HL.out.2.2.1
  go_wp2_with fail
  refine HC.mono ?_
  rintro e w2 ⟨rfl, hk⟩
  have HW2 : Hid (Wk N R 0 (brW varW x.vars (wrs [queryS] s)) w w2) := Lib.hid (HW1.out.trans hk)
  have HB2 := Lib.hid (hk.box HB1.out (by decide) hbR)
  clear q0 q1 q2 q3 q4 qf hbl
  obtain ⟨q0, q1, q2, q3, q4, qf, hbl⟩ := bk5 HB2.out
  clear hk
  clear HC
  have HC := pDirsW_any w2 HW2.out.1 (RowD.step dirOk (fun _ h => h) (fun b o hb => World.cell?_of_block (a := ⟨b, o, none⟩) (HW2.out.2.1.block b (HDD.out b hb))) HD.out) HDD.out HL.out.2.2.2.1
  go_wp2_with fail
  refine HC.mono ?_
  rintro e w3 ⟨rfl, hk⟩
  have HW3 : Hid (Wk N R 0 (dirsW x.dirs (brW varW x.vars (wrs [queryS] s))) w w3) := Lib.hid (HW2.out.trans hk)
  have HB3 := Lib.hid (hk.box HB2.out (by decide) hbR)
  clear q0 q1 q2 q3 q4 qf hbl
  obtain ⟨q0, q1, q2, q3, q4, qf, hbl⟩ := bk5 HB3.out
  clear hk
  clear HC
  have HC := pSetW_any n N R 0 100 D x.sels _ _ w3 hn (by omega) HW3.out.1 (RowD.step (selOk n) (fun _ h => h) (fun b o hb => World.cell?_of_block (a := ⟨b, o, none⟩) (HW3.out.2.1.block b (HDD.out b hb))) HS.out) HDD.out HL.out.2.2.2.2
  go_wp2_with fail
  refine HC.mono ?_
  rintro e w4 ⟨rfl, hk⟩
  have HW4 : Hid (Wk N R 0 (setW 100 x.sels (dirsW x.dirs (brW varW x.vars (wrs [queryS] s)))) w w4) := Lib.hid (HW3.out.trans hk)
  have HB4 := Lib.hid (hk.box HB3.out (by decide) hbR)
  clear q0 q1 q2 q3 q4 qf hbl
  obtain ⟨q0, q1, q2, q3, q4, qf, hbl⟩ := bk5 HB4.out
  clear hk
  clear HC
  go_wp2_with fail
  go_end0
  rw [HM.out]
  exact ⟨rfl, HW4.out⟩

set_option maxHeartbeats 3000000 in
set_option maxRecDepth 100000 in
theorem pOpW_01 {N R k : Nat} {n : Nat} {D : Nat → Prop} {x : OpT} {cs : List Value} {s : Ws} (w : World) (hn : n < 100) (hk0 : k = 0) (h : Wv N R k s w) (hE : OpE w D x cs) (hdp : dpS n x.sels = true) (hD : ∀ b, D b → b < N) (hlen : (opW x s).out.length ≤ 140737488355328) (hmu : x.mut_ = false) (hnm : x.nm.isEmpty = false) : Calls Tryz.prog 68 #[.pointer (some ⟨R, 0, none⟩), .agg cs.toArray] w (WAns N R k (opW x s) w) := by
  obtain ⟨hz1, vv, vd, vs, rfl, ha1, hd1, hs1⟩ := hE
  obtain ⟨aa, ca, rfl⟩ := ha1.shape
  obtain ⟨ad, cd, rfl⟩ := hd1.shape
  obtain ⟨n0, hs0⟩ := hs1
  have hs1 := selE_dp n n0 _ _ hdp hs0
  obtain ⟨as5, cs5, rfl⟩ := hs1.shape
  have HA := Lib.hid ha1
  have HD := Lib.hid hd1
  have HS := Lib.hid hs1
  have HDD := Lib.hid hD
  subst hk0
  have HM := Lib.hid (show opW x s = setW 100 x.sels (dirsW x.dirs (brW varW x.vars (wrs [[32], x.nm] (wrs [queryS] s)))) by unfold opW opnW; rw [hmu, hnm]; rfl)
  have hl5 : (setW 100 x.sels (dirsW x.dirs (brW varW x.vars (wrs [[32], x.nm] (wrs [queryS] s))))).out.length ≤ 140737488355328 := by rw [← HM.out]; exact hlen
  have hl4 : (dirsW x.dirs (brW varW x.vars (wrs [[32], x.nm] (wrs [queryS] s)))).out.length ≤ 140737488355328 := Nat.le_trans (setW_k (I := Mo (dirsW x.dirs (brW varW x.vars (wrs [[32], x.nm] (wrs [queryS] s))))) (mo_wr _) 100 x.sels _ (Nat.le_refl _)) hl5
  have hl3 : (brW varW x.vars (wrs [[32], x.nm] (wrs [queryS] s))).out.length ≤ 140737488355328 := Nat.le_trans (dirsW_k (I := Mo (brW varW x.vars (wrs [[32], x.nm] (wrs [queryS] s)))) (mo_wr _) x.dirs _ (Nat.le_refl _)) hl4
  have hl2 : (wrs [[32], x.nm] (wrs [queryS] s)).out.length ≤ 140737488355328 := Nat.le_trans (brW_k (I := Mo (wrs [[32], x.nm] (wrs [queryS] s))) (mo_wr _) (varW_k (mo_wr _)) x.vars _ (Nat.le_refl _)) hl3
  have hl1 : (wrs [queryS] s).out.length ≤ 140737488355328 := Nat.le_trans (wrs_k (I := Mo (wrs [queryS] s)) (mo_wr _) [[32], x.nm] _ (Nat.le_refl _)) hl2
  have e1 : ((⟨x.nm.toArray⟩ : ByteArray) == ⟨#[]⟩) = false := by rw [nm_empty, hnm]
  have e2 : ((⟨x.nm.toArray⟩ : ByteArray) != ⟨#[]⟩) = true := by rw [nm_nonempty, hnm]; rfl
  have HL := Lib.hid (And.intro hl1 (And.intro hl2 (And.intro hl3 (And.intro hl4 hl5))))
  have HW0 := Lib.hid ((Wk.refl h).alloc (.cells #[.bool x.mut_, .string ⟨x.nm.toArray⟩, .slice aa x.vars.length ca, .slice ad x.dirs.length cd, .slice as5 x.sels.length cs5] 45))
  have HB0 := Lib.hid (show (w.alloc (.cells #[.bool x.mut_, .string ⟨x.nm.toArray⟩, .slice aa x.vars.length ca, .slice ad x.dirs.length cd, .slice as5 x.sels.length cs5] 45)).heap[w.heap.size]? = some (.cells #[.bool x.mut_, .string ⟨x.nm.toArray⟩, .slice aa x.vars.length ca, .slice ad x.dirs.length cd, .slice as5 x.sels.length cs5] 45 (0, 0)) from heap_alloc_new _ _)
  have hlR := h.lt
  have hbR : w.heap.size ≠ R := by omega
  clear h ha1 hd1 hs1 hs0 hdp hD hlen hl1 hl2 hl3 hl4 hl5
  generalize opW x s = RES at *
  rw [hmu] at HB0 HW0
  rw [hmu]
  show Calls Tryz.prog 68 #[.pointer (some ⟨R, 0, none⟩), .agg #[.bool false, .string ⟨x.nm.toArray⟩, .slice aa x.vars.length ca, .slice ad x.dirs.length cd, .slice as5 x.sels.length cs5]] w _
  go_enter Tryz.func68, Tryz.ntmps68
  have hT := txOne (v := ⟨#[113, 117, 101, 114, 121]⟩) HW0.out
  have HCW := write_any (l := [⟨#[113, 117, 101, 114, 121]⟩]) (cap := 1) _ hT.1.1 hT.2 (show 1 ≤ 100 by decide) (Nat.le_refl _) HL.out.1
  have HCW : Calls Tryz.prog 69 #[.pointer (some ⟨R, 0, none⟩), .slice (some ⟨(w.alloc (.cells #[.bool false, .string ⟨x.nm.toArray⟩, .slice aa x.vars.length ca, .slice ad x.dirs.length cd, .slice as5 x.sels.length cs5] 45)).heap.size, 0, none⟩) 1 1] _ _ := HCW
  rw [show (w.alloc (.cells #[.bool false, .string ⟨x.nm.toArray⟩, .slice aa x.vars.length ca, .slice ad x.dirs.length cd, .slice as5 x.sels.length cs5] 45)).heap.size = w.heap.size + 1 by simp] at HCW
  have HT1 := Lib.hid hT.1
  clear hT
  go_wp2_with fail
  refine HCW.mono ?_
  rintro e w1 ⟨rfl, hk⟩
  have HW1 : Hid (Wk N R 0 (wrs [queryS] s) w w1) := Lib.hid (HW0.out.trans (HT1.out.trans hk))
  have HB1 := Lib.hid ((HT1.out.trans hk).box HB0.out (by decide) hbR)
  obtain ⟨q0, q1, q2, q3, q4, qf, hbl⟩ := bk5 HB1.out
  clear hk
  clear HCW HT1
  have hT := txTwo (v := ⟨#[32]⟩) (u := ⟨x.nm.toArray⟩) HW1.out
  have HCW := write_any (l := [⟨#[32]⟩, ⟨x.nm.toArray⟩]) (cap := 2) _ hT.1.1 hT.2 (show 2 ≤ 100 by decide) (Nat.le_refl _) HL.out.2.1
  have HCW : Calls Tryz.prog 69 #[.pointer (some ⟨R, 0, none⟩), .slice (some ⟨w1.heap.size, 0, none⟩) 2 2] _ _ := HCW
  have HT1 := Lib.hid hT.1
  clear hT
  go_wp2_with fail
  refine HCW.mono ?_
  rintro e w2 ⟨rfl, hk⟩
  have HW2 : Hid (Wk N R 0 (wrs [[32], x.nm] (wrs [queryS] s)) w w2) := Lib.hid (HW1.out.trans (HT1.out.trans hk))
  have HB2 := Lib.hid ((HT1.out.trans hk).box HB1.out (by decide) hbR)
  clear q0 q1 q2 q3 q4 qf hbl
  obtain ⟨q0, q1, q2, q3, q4, qf, hbl⟩ := bk5 HB2.out
  clear hk
  clear HCW HT1
  have HC := brVar_any varW w2 HW2.out.1 (RowD.step varOk (fun _ h => h) (fun b o hb => World.cell?_of_block (a := ⟨b, o, none⟩) (HW2.out.2.1.block b (HDD.out b hb))) HA.out) HDD.out (fun x _ s' cs W hv hb hE hl => pVarW_any W hv hE HDD.out hl) (fun s0 x s' h => varW_k (mo_wr s0) x s' h) HL.out.2.2.1
  go_wp2_with fail
  refine HC.mono ?_
  rintro e w3 ⟨rfl, hk⟩
  have HW3 : Hid (Wk N R 0 (brW varW x.vars (wrs [[32], x.nm] (wrs [queryS] s))) w w3) := Lib.hid (HW2.out.trans hk)
  have HB3 := Lib.hid (hk.box HB2.out (by decide) hbR)
  clear q0 q1 q2 q3 q4 qf hbl
  obtain ⟨q0, q1, q2, q3, q4, qf, hbl⟩ := bk5 HB3.out
  clear hk
  clear HC
  have HC := pDirsW_any w3 HW3.out.1 (RowD.step dirOk (fun _ h => h) (fun b o hb => World.cell?_of_block (a := ⟨b, o, none⟩) (HW3.out.2.1.block b (HDD.out b hb))) HD.out) HDD.out HL.out.2.2.2.1
  go_wp2_with fail
  refine HC.mono ?_
  rintro e w4 ⟨rfl, hk⟩
  have HW4 : Hid (Wk N R 0 (dirsW x.dirs (brW varW x.vars (wrs [[32], x.nm] (wrs [queryS] s)))) w w4) := Lib.hid (HW3.out.trans hk)
  have HB4 := Lib.hid (hk.box HB3.out (by decide) hbR)
  clear q0 q1 q2 q3 q4 qf hbl
  obtain ⟨q0, q1, q2, q3, q4, qf, hbl⟩ := bk5 HB4.out
  clear hk
  clear HC
  have HC := pSetW_any n N R 0 100 D x.sels _ _ w4 hn (by omega) HW4.out.1 (RowD.step (selOk n) (fun _ h => h) (fun b o hb => World.cell?_of_block (a := ⟨b, o, none⟩) (HW4.out.2.1.block b (HDD.out b hb))) HS.out) HDD.out HL.out.2.2.2.2
  go_wp2_with fail
  refine HC.mono ?_
  rintro e w5 ⟨rfl, hk⟩
  have HW5 : Hid (Wk N R 0 (setW 100 x.sels (dirsW x.dirs (brW varW x.vars (wrs [[32], x.nm] (wrs [queryS] s))))) w w5) := Lib.hid (HW4.out.trans hk)
  have HB5 := Lib.hid (hk.box HB4.out (by decide) hbR)
  clear q0 q1 q2 q3 q4 qf hbl
  obtain ⟨q0, q1, q2, q3, q4, qf, hbl⟩ := bk5 HB5.out
  clear hk
  clear HC
  go_wp2_with fail
  go_end0
  rw [HM.out]
  exact ⟨rfl, HW5.out⟩

set_option maxHeartbeats 3000000 in
set_option maxRecDepth 100000 in
theorem pOpW_10 {N R k : Nat} {n : Nat} {D : Nat → Prop} {x : OpT} {cs : List Value} {s : Ws} (w : World) (hn : n < 100) (hk0 : k = 0) (h : Wv N R k s w) (hE : OpE w D x cs) (hdp : dpS n x.sels = true) (hD : ∀ b, D b → b < N) (hlen : (opW x s).out.length ≤ 140737488355328) (hmu : x.mut_ = true) (hnm : x.nm.isEmpty = true) : Calls Tryz.prog 68 #[.pointer (some ⟨R, 0, none⟩), .agg cs.toArray] w (WAns N R k (opW x s) w) := by
  obtain ⟨hz1, vv, vd, vs, rfl, ha1, hd1, hs1⟩ := hE
  obtain ⟨aa, ca, rfl⟩ := ha1.shape
  obtain ⟨ad, cd, rfl⟩ := hd1.shape
  obtain ⟨n0, hs0⟩ := hs1
  have hs1 := selE_dp n n0 _ _ hdp hs0
  obtain ⟨as5, cs5, rfl⟩ := hs1.shape
  have HA := Lib.hid ha1
  have HD := Lib.hid hd1
  have HS := Lib.hid hs1
  have HDD := Lib.hid hD
  subst hk0
  have HM := Lib.hid (show opW x s = setW 100 x.sels (dirsW x.dirs (brW varW x.vars (wrs [mutS] s))) by unfold opW opnW; rw [hmu, hnm]; rfl)
  have hl5 : (setW 100 x.sels (dirsW x.dirs (brW varW x.vars (wrs [mutS] s)))).out.length ≤ 140737488355328 := by rw [← HM.out]; exact hlen
  have hl4 : (dirsW x.dirs (brW varW x.vars (wrs [mutS] s))).out.length ≤ 140737488355328 := Nat.le_trans (setW_k (I := Mo (dirsW x.dirs (brW varW x.vars (wrs [mutS] s)))) (mo_wr _) 100 x.sels _ (Nat.le_refl _)) hl5
  have hl3 : (brW varW x.vars (wrs [mutS] s)).out.length ≤ 140737488355328 := Nat.le_trans (dirsW_k (I := Mo (brW varW x.vars (wrs [mutS] s))) (mo_wr _) x.dirs _ (Nat.le_refl _)) hl4
  have hl2 : (wrs [mutS] s).out.length ≤ 140737488355328 := Nat.le_trans (brW_k (I := Mo (wrs [mutS] s)) (mo_wr _) (varW_k (mo_wr _)) x.vars _ (Nat.le_refl _)) hl3
  have hl1 := hl2
  have e1 : ((⟨x.nm.toArray⟩ : ByteArray) == ⟨#[]⟩) = true := by rw [nm_empty, hnm]
  have e2 : ((⟨x.nm.toArray⟩ : ByteArray) != ⟨#[]⟩) = false := by rw [nm_nonempty, hnm]; rfl
  have HL := Lib.hid (And.intro hl1 (And.intro hl2 (And.intro hl3 (And.intro hl4 hl5))))
  have HW0 := Lib.hid ((Wk.refl h).alloc (.cells #[.bool x.mut_, .string ⟨x.nm.toArray⟩, .slice aa x.vars.length ca, .slice ad x.dirs.length cd, .slice as5 x.sels.length cs5] 45))
  have HB0 := Lib.hid (show (w.alloc (.cells #[.bool x.mut_, .string ⟨x.nm.toArray⟩, .slice aa x.vars.length ca, .slice ad x.dirs.length cd, .slice as5 x.sels.length cs5] 45)).heap[w.heap.size]? = some (.cells #[.bool x.mut_, .string ⟨x.nm.toArray⟩, .slice aa x.vars.length ca, .slice ad x.dirs.length cd, .slice as5 x.sels.length cs5] 45 (0, 0)) from heap_alloc_new _ _)
  have hlR := h.lt
  have hbR : w.heap.size ≠ R := by omega
  clear h ha1 hd1 hs1 hs0 hdp hD hlen hl1 hl2 hl3 hl4 hl5
  generalize opW x s = RES at *
  rw [hmu] at HB0 HW0
  rw [hmu]
  show Calls Tryz.prog 68 #[.pointer (some ⟨R, 0, none⟩), .agg #[.bool true, .string ⟨x.nm.toArray⟩, .slice aa x.vars.length ca, .slice ad x.dirs.length cd, .slice as5 x.sels.length cs5]] w _
  go_enter Tryz.func68, Tryz.ntmps68
  have hT := txOne (v := ⟨#[109, 117, 116, 97, 116, 105, 111, 110]⟩) HW0.out
  have HCW := write_any (l := [⟨#[109, 117, 116, 97, 116, 105, 111, 110]⟩]) (cap := 1) _ hT.1.1 hT.2 (show 1 ≤ 100 by decide) (Nat.le_refl _) HL.out.1
  have HCW : Calls Tryz.prog 69 #[.pointer (some ⟨R, 0, none⟩), .slice (some ⟨(w.alloc (.cells #[.bool true, .string ⟨x.nm.toArray⟩, .slice aa x.vars.length ca, .slice ad x.dirs.length cd, .slice as5 x.sels.length cs5] 45)).heap.size, 0, none⟩) 1 1] _ _ := HCW
  rw [show (w.alloc (.cells #[.bool true, .string ⟨x.nm.toArray⟩, .slice aa x.vars.length ca, .slice ad x.dirs.length cd, .slice as5 x.sels.length cs5] 45)).heap.size = w.heap.size + 1 by simp] at HCW
  have HT1 := Lib.hid hT.1
  clear hT
  go_wp2_with fail
  refine HCW.mono ?_
  rintro e w1 ⟨rfl, hk⟩
  have HW1 : Hid (Wk N R 0 (wrs [mutS] s) w w1) := Lib.hid (HW0.out.trans (HT1.out.trans hk))
  have HB1 := Lib.hid ((HT1.out.trans hk).box HB0.out (by decide) hbR)
  obtain ⟨q0, q1, q2, q3, q4, qf, hbl⟩ := bk5 HB1.out
  clear hk
  clear HCW HT1
  have HC := brVar_any varW w1 HW1.out.1 (RowD.step varOk (fun _ h => h) (fun b o hb => World.cell?_of_block (a := ⟨b, o, none⟩) (HW1.out.2.1.block b (HDD.out b hb))) HA.out) HDD.out (fun x _ s' cs W hv hb hE hl => pVarW_any W hv hE HDD.out hl) (fun s0 x s' h => varW_k (mo_wr s0) x s' h) HL.out.2.2.1
  go_wp2_with fail
  refine HC.mono ?_
  rintro e w2 ⟨rfl, hk⟩
  have HW2 : Hid (Wk N R 0 (brW varW x.vars (wrs [mutS] s)) w w2) := Lib.hid (HW1.out.trans hk)
  have HB2 := Lib.hid (hk.box HB1.out (by decide) hbR)
  clear q0 q1 q2 q3 q4 qf hbl
  obtain ⟨q0, q1, q2, q3, q4, qf, hbl⟩ := bk5 HB2.out
  clear hk
  clear HC
  have HC := pDirsW_any w2 HW2.out.1 (RowD.step dirOk (fun _ h => h) (fun b o hb => World.cell?_of_block (a := ⟨b, o, none⟩) (HW2.out.2.1.block b (HDD.out b hb))) HD.out) HDD.out HL.out.2.2.2.1
  go_wp2_with fail
  refine HC.mono ?_
  rintro e w3 ⟨rfl, hk⟩
  have HW3 : Hid (Wk N R 0 (dirsW x.dirs (brW varW x.vars (wrs [mutS] s))) w w3) := Lib.hid (HW2.out.trans hk)
  have HB3 := Lib.hid (hk.box HB2.out (by decide) hbR)
  clear q0 q1 q2 q3 q4 qf hbl
  obtain ⟨q0, q1, q2, q3, q4, qf, hbl⟩ := bk5 HB3.out
  clear hk
  clear HC
  have HC := pSetW_any n N R 0 100 D x.sels _ _ w3 hn (by omega) HW3.out.1 (RowD.step (selOk n) (fun _ h => h) (fun b o hb => World.cell?_of_block (a := ⟨b, o, none⟩) (HW3.out.2.1.block b (HDD.out b hb))) HS.out) HDD.out HL.out.2.2.2.2
  go_wp2_with fail
  refine HC.mono ?_
  rintro e w4 ⟨rfl, hk⟩
  have HW4 : Hid (Wk N R 0 (setW 100 x.sels (dirsW x.dirs (brW varW x.vars (wrs [mutS] s)))) w w4) := Lib.hid (HW3.out.trans hk)
  have HB4 := Lib.hid (hk.box HB3.out (by decide) hbR)
  clear q0 q1 q2 q3 q4 qf hbl
  obtain ⟨q0, q1, q2, q3, q4, qf, hbl⟩ := bk5 HB4.out
  clear hk
  clear HC
  go_wp2_with fail
  go_end0
  rw [HM.out]
  exact ⟨rfl, HW4.out⟩

set_option maxHeartbeats 3000000 in
set_option maxRecDepth 100000 in
theorem pOpW_11 {N R k : Nat} {n : Nat} {D : Nat → Prop} {x : OpT} {cs : List Value} {s : Ws} (w : World) (hn : n < 100) (hk0 : k = 0) (h : Wv N R k s w) (hE : OpE w D x cs) (hdp : dpS n x.sels = true) (hD : ∀ b, D b → b < N) (hlen : (opW x s).out.length ≤ 140737488355328) (hmu : x.mut_ = true) (hnm : x.nm.isEmpty = false) : Calls Tryz.prog 68 #[.pointer (some ⟨R, 0, none⟩), .agg cs.toArray] w (WAns N R k (opW x s) w) := by
  obtain ⟨hz1, vv, vd, vs, rfl, ha1, hd1, hs1⟩ := hE
  obtain ⟨aa, ca, rfl⟩ := ha1.shape
  obtain ⟨ad, cd, rfl⟩ := hd1.shape
  obtain ⟨n0, hs0⟩ := hs1
  have hs1 := selE_dp n n0 _ _ hdp hs0
  obtain ⟨as5, cs5, rfl⟩ := hs1.shape
  have HA := Lib.hid ha1
  have HD := Lib.hid hd1
  have HS := Lib.hid hs1
  have HDD := Lib.hid hD
  subst hk0
  have HM := Lib.hid (show opW x s = setW 100 x.sels (dirsW x.dirs (brW varW x.vars (wrs [[32], x.nm] (wrs [mutS] s)))) by unfold opW opnW; rw [hmu, hnm]; rfl)
  have hl5 : (setW 100 x.sels (dirsW x.dirs (brW varW x.vars (wrs [[32], x.nm] (wrs [mutS] s))))).out.length ≤ 140737488355328 := by rw [← HM.out]; exact hlen
  have hl4 : (dirsW x.dirs (brW varW x.vars (wrs [[32], x.nm] (wrs [mutS] s)))).out.length ≤ 140737488355328 := Nat.le_trans (setW_k (I := Mo (dirsW x.dirs (brW varW x.vars (wrs [[32], x.nm] (wrs [mutS] s))))) (mo_wr _) 100 x.sels _ (Nat.le_refl _)) hl5
  have hl3 : (brW varW x.vars (wrs [[32], x.nm] (wrs [mutS] s))).out.length ≤ 140737488355328 := Nat.le_trans (dirsW_k (I := Mo (brW varW x.vars (wrs [[32], x.nm] (wrs [mutS] s)))) (mo_wr _) x.dirs _ (Nat.le_refl _)) hl4
  have hl2 : (wrs [[32], x.nm] (wrs [mutS] s)).out.length ≤ 140737488355328 := Nat.le_trans (brW_k (I := Mo (wrs [[32], x.nm] (wrs [mutS] s))) (mo_wr _) (varW_k (mo_wr _)) x.vars _ (Nat.le_refl _)) hl3
  have hl1 : (wrs [mutS] s).out.length ≤ 140737488355328 := Nat.le_trans (wrs_k (I := Mo (wrs [mutS] s)) (mo_wr _) [[32], x.nm] _ (Nat.le_refl _)) hl2
  have e1 : ((⟨x.nm.toArray⟩ : ByteArray) == ⟨#[]⟩) = false := by rw [nm_empty, hnm]
  have e2 : ((⟨x.nm.toArray⟩ : ByteArray) != ⟨#[]⟩) = true := by rw [nm_nonempty, hnm]; rfl
  have HL := Lib.hid (And.intro hl1 (And.intro hl2 (And.intro hl3 (And.intro hl4 hl5))))
  have HW0 := Lib.hid ((Wk.refl h).alloc (.cells #[.bool x.mut_, .string ⟨x.nm.toArray⟩, .slice aa x.vars.length ca, .slice ad x.dirs.length cd, .slice as5 x.sels.length cs5] 45))
  have HB0 := Lib.hid (show (w.alloc (.cells #[.bool x.mut_, .string ⟨x.nm.toArray⟩, .slice aa x.vars.length ca, .slice ad x.dirs.length cd, .slice as5 x.sels.length cs5] 45)).heap[w.heap.size]? = some (.cells #[.bool x.mut_, .string ⟨x.nm.toArray⟩, .slice aa x.vars.length ca, .slice ad x.dirs.length cd, .slice as5 x.sels.length cs5] 45 (0, 0)) from heap_alloc_new _ _)
  have hlR := h.lt
  have hbR : w.heap.size ≠ R := by omega
  clear h ha1 hd1 hs1 hs0 hdp hD hlen hl1 hl2 hl3 hl4 hl5
  generalize opW x s = RES at *
  rw [hmu] at HB0 HW0
  rw [hmu]
  show Calls Tryz.prog 68 #[.pointer (some ⟨R, 0, none⟩), .agg #[.bool true, .string ⟨x.nm.toArray⟩, .slice aa x.vars.length ca, .slice ad x.dirs.length cd, .slice as5 x.sels.length cs5]] w _
  go_enter Tryz.func68, Tryz.ntmps68
  have hT := txOne (v := ⟨#[109, 117, 116, 97, 116, 105, 111, 110]⟩) HW0.out
  have HCW := write_any (l := [⟨#[109, 117, 116, 97, 116, 105, 111, 110]⟩]) (cap := 1) _ hT.1.1 hT.2 (show 1 ≤ 100 by decide) (Nat.le_refl _) HL.out.1
  have HCW : Calls Tryz.prog 69 #[.pointer (some ⟨R, 0, none⟩), .slice (some ⟨(w.alloc (.cells #[.bool true, .string ⟨x.nm.toArray⟩, .slice aa x.vars.length ca, .slice ad x.dirs.length cd, .slice as5 x.sels.length cs5] 45)).heap.size, 0, none⟩) 1 1] _ _ := HCW
  rw [show (w.alloc (.cells #[.bool true, .string ⟨x.nm.toArray⟩, .slice aa x.vars.length ca, .slice ad x.dirs.length cd, .slice as5 x.sels.length cs5] 45)).heap.size = w.heap.size + 1 by simp] at HCW
  have HT1 := Lib.hid hT.1
  clear hT
  go_wp2_with fail
  refine HCW.mono ?_
  rintro e w1 ⟨rfl, hk⟩
  have HW1 : Hid (Wk N R 0 (wrs [mutS] s) w w1) := Lib.hid (HW0.out.trans (HT1.out.trans hk))
  have HB1 := Lib.hid ((HT1.out.trans hk).box HB0.out (by decide) hbR)
  obtain ⟨q0, q1, q2, q3, q4, qf, hbl⟩ := bk5 HB1.out
  clear hk
  clear HCW HT1
  have hT := txTwo (v := ⟨#[32]⟩) (u := ⟨x.nm.toArray⟩) HW1.out
  have HCW := write_any (l := [⟨#[32]⟩, ⟨x.nm.toArray⟩]) (cap := 2) _ hT.1.1 hT.2 (show 2 ≤ 100 by decide) (Nat.le_refl _) HL.out.2.1
  have HCW : Calls Tryz.prog 69 #[.pointer (some ⟨R, 0, none⟩), .slice (some ⟨w1.heap.size, 0, none⟩) 2 2] _ _ := HCW
  have HT1 := Lib.hid hT.1
  clear hT
  go_wp2_with fail
  refine HCW.mono ?_
  rintro e w2 ⟨rfl, hk⟩
  have HW2 : Hid (Wk N R 0 (wrs [[32], x.nm] (wrs [mutS] s)) w w2) := Lib.hid (HW1.out.trans (HT1.out.trans hk))
  have HB2 := Lib.hid ((HT1.out.trans hk).box HB1.out (by decide) hbR)
  clear q0 q1 q2 q3 q4 qf hbl
  obtain ⟨q0, q1, q2, q3, q4, qf, hbl⟩ := bk5 HB2.out
  clear hk
  clear HCW HT1
  have HC := brVar_any varW w2 HW2.out.1 (RowD.step varOk (fun _ h => h) (fun b o hb => World.cell?_of_block (a := ⟨b, o, none⟩) (HW2.out.2.1.block b (HDD.out b hb))) HA.out) HDD.out (fun x _ s' cs W hv hb hE hl => pVarW_any W hv hE HDD.out hl) (fun s0 x s' h => varW_k (mo_wr s0) x s' h) HL.out.2.2.1
  go_wp2_with fail
  refine HC.mono ?_
  rintro e w3 ⟨rfl, hk⟩
  have HW3 : Hid (Wk N R 0 (brW varW x.vars (wrs [[32], x.nm] (wrs [mutS] s))) w w3) := Lib.hid (HW2.out.trans hk)
  have HB3 := Lib.hid (hk.box HB2.out (by decide) hbR)
  clear q0 q1 q2 q3 q4 qf hbl
  obtain ⟨q0, q1, q2, q3, q4, qf, hbl⟩ := bk5 HB3.out
  clear hk
  clear HC
  have HC := pDirsW_any w3 HW3.out.1 (RowD.step dirOk (fun _ h => h) (fun b o hb => World.cell?_of_block (a := ⟨b, o, none⟩) (HW3.out.2.1.block b (HDD.out b hb))) HD.out) HDD.out HL.out.2.2.2.1
  go_wp2_with fail
  refine HC.mono ?_
  rintro e w4 ⟨rfl, hk⟩
  have HW4 : Hid (Wk N R 0 (dirsW x.dirs (brW varW x.vars (wrs [[32], x.nm] (wrs [mutS] s)))) w w4) := Lib.hid (HW3.out.trans hk)
  have HB4 := Lib.hid (hk.box HB3.out (by decide) hbR)
  clear q0 q1 q2 q3 q4 qf hbl
  obtain ⟨q0, q1, q2, q3, q4, qf, hbl⟩ := bk5 HB4.out
  clear hk
  clear HC
  have HC := pSetW_any n N R 0 100 D x.sels _ _ w4 hn (by omega) HW4.out.1 (RowD.step (selOk n) (fun _ h => h) (fun b o hb => World.cell?_of_block (a := ⟨b, o, none⟩) (HW4.out.2.1.block b (HDD.out b hb))) HS.out) HDD.out HL.out.2.2.2.2
  go_wp2_with fail
  refine HC.mono ?_
  rintro e w5 ⟨rfl, hk⟩
  have HW5 : Hid (Wk N R 0 (setW 100 x.sels (dirsW x.dirs (brW varW x.vars (wrs [[32], x.nm] (wrs [mutS] s))))) w w5) := Lib.hid (HW4.out.trans hk)
  have HB5 := Lib.hid (hk.box HB4.out (by decide) hbR)
  clear q0 q1 q2 q3 q4 qf hbl
  obtain ⟨q0, q1, q2, q3, q4, qf, hbl⟩ := bk5 HB5.out
  clear hk
  clear HC
  go_wp2_with fail
  go_end0
  rw [HM.out]
  exact ⟨rfl, HW5.out⟩

set_option maxHeartbeats 3000000 in
set_option maxRecDepth 100000 in
theorem pOpW_any {N R k : Nat} {n : Nat} {D : Nat → Prop} {x : OpT} {cs : List Value} {s : Ws} (w : World) (hn : n < 100) (hk0 : k = 0) (h : Wv N R k s w) (hE : OpE w D x cs) (hdp : dpS n x.sels = true) (hD : ∀ b, D b → b < N) (hlen : (opW x s).out.length ≤ 140737488355328) : Calls Tryz.prog 68 #[.pointer (some ⟨R, 0, none⟩), .agg cs.toArray] w (WAns N R k (opW x s) w) := by
  cases hmu : x.mut_ <;> cases hnm : x.nm.isEmpty
  · exact pOpW_01 w hn hk0 h hE hdp hD hlen hmu hnm
  · exact pOpW_00 w hn hk0 h hE hdp hD hlen hmu hnm
  · exact pOpW_11 w hn hk0 h hE hdp hD hlen hmu hnm
  · exact pOpW_10 w hn hk0 h hE hdp hD hlen hmu hnm

set_option maxHeartbeats 3000000 in
set_option maxRecDepth 100000 in
theorem pFragW_any {N R k : Nat} {n : Nat} {D : Nat → Prop} {x : FragT} {cs : List Value} {s : Ws} (w : World) (hn : n < 100) (hk0 : k = 0) (h : Wv N R k s w) (hE : FragE w D x cs) (hdp : dpS n x.sels = true) (hD : ∀ b, D b → b < N) (hlen : (fragW x s).out.length ≤ 140737488355328) : Calls Tryz.prog 71 #[.pointer (some ⟨R, 0, none⟩), .agg cs.toArray] w (WAns N R k (fragW x s) w) := by
  obtain ⟨hz1, vd, vs, rfl, hd1, hs1⟩ := hE
  obtain ⟨ad, cd, rfl⟩ := hd1.shape
  obtain ⟨n0, hs0⟩ := hs1
  have hs1 := selE_dp n n0 _ _ hdp hs0
  obtain ⟨as5, cs5, rfl⟩ := hs1.shape
  have HD := Lib.hid hd1
  have HS := Lib.hid hs1
  have HDD := Lib.hid hD
  subst hk0
  have HM := Lib.hid (show fragW x s = setW 100 x.sels (dirsW x.dirs (wrs [fragS ++ [32], x.nm, [32, 111, 110, 32], x.on_] s)) from rfl)
  have hl5 : (setW 100 x.sels (dirsW x.dirs (wrs [fragS ++ [32], x.nm, [32, 111, 110, 32], x.on_] s))).out.length ≤ 140737488355328 := by rw [← HM.out]; exact hlen
  have hl4 : (dirsW x.dirs (wrs [fragS ++ [32], x.nm, [32, 111, 110, 32], x.on_] s)).out.length ≤ 140737488355328 := Nat.le_trans (setW_k (I := Mo (dirsW x.dirs (wrs [fragS ++ [32], x.nm, [32, 111, 110, 32], x.on_] s))) (mo_wr _) 100 x.sels _ (Nat.le_refl _)) hl5
  have hl1 : (wrs [fragS ++ [32], x.nm, [32, 111, 110, 32], x.on_] s).out.length ≤ 140737488355328 := Nat.le_trans (dirsW_k (I := Mo (wrs [fragS ++ [32], x.nm, [32, 111, 110, 32], x.on_] s)) (mo_wr _) x.dirs _ (Nat.le_refl _)) hl4
  have HL := Lib.hid (And.intro hl1 (And.intro hl4 hl5))
  have HW0 := Lib.hid ((Wk.refl h).alloc (.cells #[.string ⟨x.nm.toArray⟩, .string ⟨x.on_.toArray⟩, .slice ad x.dirs.length cd, .slice as5 x.sels.length cs5] 61))
  have HB0 := Lib.hid (show (w.alloc (.cells #[.string ⟨x.nm.toArray⟩, .string ⟨x.on_.toArray⟩, .slice ad x.dirs.length cd, .slice as5 x.sels.length cs5] 61)).heap[w.heap.size]? = some (.cells #[.string ⟨x.nm.toArray⟩, .string ⟨x.on_.toArray⟩, .slice ad x.dirs.length cd, .slice as5 x.sels.length cs5] 61 (0, 0)) from heap_alloc_new _ _)
  have hlR := h.lt
  have hbR : w.heap.size ≠ R := by omega
  clear h hd1 hs1 hs0 hdp hD hlen hl1 hl4 hl5
  generalize fragW x s = RES at *
  show Calls Tryz.prog 71 #[.pointer (some ⟨R, 0, none⟩), .agg #[.string ⟨x.nm.toArray⟩, .string ⟨x.on_.toArray⟩, .slice ad x.dirs.length cd, .slice as5 x.sels.length cs5]] w _
  go_enter Tryz.func71, Tryz.ntmps71
  have hT := txFour (v := ⟨#[102, 114, 97, 103, 109, 101, 110, 116, 32]⟩) (u := ⟨x.nm.toArray⟩) (x := ⟨#[32, 111, 110, 32]⟩) (y := ⟨x.on_.toArray⟩) HW0.out
  have HCW := write_any (l := [⟨#[102, 114, 97, 103, 109, 101, 110, 116, 32]⟩, ⟨x.nm.toArray⟩, ⟨#[32, 111, 110, 32]⟩, ⟨x.on_.toArray⟩]) (cap := 4) _ hT.1.1 hT.2 (show 4 ≤ 100 by decide) (Nat.le_refl _) HL.out.1
  have HCW : Calls Tryz.prog 69 #[.pointer (some ⟨R, 0, none⟩), .slice (some ⟨(w.alloc (.cells #[.string ⟨x.nm.toArray⟩, .string ⟨x.on_.toArray⟩, .slice ad x.dirs.length cd, .slice as5 x.sels.length cs5] 61)).heap.size, 0, none⟩) 4 4] _ _ := HCW
  rw [show (w.alloc (.cells #[.string ⟨x.nm.toArray⟩, .string ⟨x.on_.toArray⟩, .slice ad x.dirs.length cd, .slice as5 x.sels.length cs5] 61)).heap.size = w.heap.size + 1 by simp] at HCW
  have HT1 := Lib.hid hT.1
  clear hT
  go_wp2_with fail
  refine HCW.mono ?_
  rintro e w1 ⟨rfl, hk⟩
  have HW1 : Hid (Wk N R 0 (wrs [fragS ++ [32], x.nm, [32, 111, 110, 32], x.on_] s) w w1) := Lib.hid (HW0.out.trans (HT1.out.trans hk))
  have HB1 := Lib.hid ((HT1.out.trans hk).box HB0.out (by decide) hbR)
  obtain ⟨q0, q1, q2, q3, qf, hbl⟩ := bk4 HB1.out
  clear hk
  clear HCW HT1
  have HC := pDirsW_any w1 HW1.out.1 (RowD.step dirOk (fun _ h => h) (fun b o hb => World.cell?_of_block (a := ⟨b, o, none⟩) (HW1.out.2.1.block b (HDD.out b hb))) HD.out) HDD.out HL.out.2.1
  go_wp2_with fail
  refine HC.mono ?_
  rintro e w2 ⟨rfl, hk⟩
  have HW2 : Hid (Wk N R 0 (dirsW x.dirs (wrs [fragS ++ [32], x.nm, [32, 111, 110, 32], x.on_] s)) w w2) := Lib.hid (HW1.out.trans hk)
  have HB2 := Lib.hid (hk.box HB1.out (by decide) hbR)
  clear q0 q1 q2 q3 qf hbl
  obtain ⟨q0, q1, q2, q3, qf, hbl⟩ := bk4 HB2.out
  clear hk
  clear HC
  have HC := pSetW_any n N R 0 100 D x.sels _ _ w2 hn (by omega) HW2.out.1 (RowD.step (selOk n) (fun _ h => h) (fun b o hb => World.cell?_of_block (a := ⟨b, o, none⟩) (HW2.out.2.1.block b (HDD.out b hb))) HS.out) HDD.out HL.out.2.2
  go_wp2_with fail
  refine HC.mono ?_
  rintro e w3 ⟨rfl, hk⟩
  have HW3 : Hid (Wk N R 0 (setW 100 x.sels (dirsW x.dirs (wrs [fragS ++ [32], x.nm, [32, 111, 110, 32], x.on_] s))) w w3) := Lib.hid (HW2.out.trans hk)
  have HB3 := Lib.hid (hk.box HB2.out (by decide) hbR)
  clear q0 q1 q2 q3 qf hbl
  obtain ⟨q0, q1, q2, q3, qf, hbl⟩ := bk4 HB3.out
  clear hk
  clear HC
  go_wp2_with fail
  go_end0
  rw [HM.out]
  exact ⟨rfl, HW3.out⟩

end Go.Proofs.YtkfllppggjhhmaaGreatDoor
