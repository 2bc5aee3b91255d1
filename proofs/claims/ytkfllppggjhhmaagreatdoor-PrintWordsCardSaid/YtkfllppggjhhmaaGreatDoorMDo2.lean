/-
  doc's parser: a variable's definition; such definitions, or none.
-/
import Derived.Test.YtkfllppggjhhmaaGreatDoorMDc
import Derived.Test.YtkfllppggjhhmaaGreatDoorMSvVar
namespace Go.Proofs.YtkfllppggjhhmaaGreatDoor
open Go.RowKit

set_option maxHeartbeats 2000000 in
set_option maxRecDepth 100000 in
theorem sonVar_any {c : Cx} {k : Nat} {s : Ms} (b e : List UInt8) (P : Ms → VarT × Ms) (w : World) (h : Pv c k s w) (hP : ∀ s' W, Pv c k s' W → Calls Tryz.prog 250 #[.pointer (some ⟨c.R, 0, none⟩)] W (RecAns VarE c k W (P s')))
    (hless : ∀ s', s'.er = 0 → (P s').2.er = 0 → (P s').2.l.length < s'.l.length) :
    Calls Tryz.prog 249 #[.pointer (some ⟨c.R, 0, none⟩), .string ⟨b.toArray⟩, .func (.func 250) #[.pointer (some ⟨c.R, 0, none⟩)] #[], .string ⟨e.toArray⟩] w (RowAns VarE 7 c k w (soM c.z b e P s)) := by
  have HS := pSign_any b w h
  have HH := Lib.hid h
  have HM := Lib.hid (show soM c.z b e P s = if isSg b (hdT s.l) then svM c.z b e P s else ([], s) from rfl)
  have HV := fun W (hb : Below w.heap.size w W) => sevVar_any b e P W (h.below hb h.hN) hP hless
  clear h hP hless
  cases hi : isSg b (hdT s.l) with
  | true =>
    rw [hi] at HS HM
    clear hi
    go_enter Tryz.func249, Tryz.ntmps249
    go_wp2_with fail
    refine HS.mono ?_
    rintro ee w1 ⟨rfl, hb⟩
    have HV1 := HV w1 hb
    have HB := Lib.hid hb
    clear HV HS hb
    go_wp2_with fail
    refine HV1.mono ?_
    rintro ee w2 ⟨v, rfl, hR, hp⟩
    have HR := Lib.hid hR
    have HP := Lib.hid hp
    obtain ⟨a, cp, rfl⟩ := hR.shape
    clear hR hp HV1
    go_wp2_with fail
    go_ret
    rw [HM.out]
    exact ⟨_, rfl, RowD.step varOk (fun b hd => ⟨Nat.le_trans HB.out.size hd.1, hd.2⟩) (fun _ _ _ => rfl) HR.out, ((Pw.refl HH.out).below HB.out).trans HP.out⟩
  | false =>
    rw [hi] at HS HM
    clear hi HV
    go_enter Tryz.func249, Tryz.ntmps249
    go_wp2_with fail
    refine HS.mono ?_
    rintro ee w1 ⟨rfl, hb⟩
    have HB := Lib.hid hb
    clear HS hb
    go_wp2_with fail
    go_ret
    rw [HM.out]
    exact ⟨_, rfl, .nil, (Pw.refl HH.out).below HB.out⟩

theorem tyM_fwd (z : Nat) (s : Ms) : Fwd s (tyM z s).2 := by
  unfold tyM
  split
  · exact ⟨by show (s.l.drop _).length ≤ _; rw [List.length_drop]; omega, id⟩
  · exact (fail_eats z (by decide) s).fwd
theorem dfltM_fwd (z : Nat) (s : Ms) : Fwd s (dfltM z s).2 := by
  unfold dfltM
  split
  · exact Fwd.trans ⟨tl_le s, id⟩ (vaM_fwd z _ _)
  · exact .refl s
theorem vdM_eats (z : Nat) (s : Ms) : Eats s (vdM z s).2 := (sgM_eats z [36] s).then ((((nmM_eats z _).fwd.trans (sgM_eats z [58] _).fwd).trans (tyM_fwd z _)).trans (dfltM_fwd z _))

set_option maxHeartbeats 8000000 in
set_option maxRecDepth 100000 in
theorem pVar_any {c : Cx} {k : Nat} {s : Ms} (w : World) (h : Pv c k s w) : Calls Tryz.prog 250 #[.pointer (some ⟨c.R, 0, none⟩)] w (RecAns VarE c k w (vdM c.z s)) := by
  have G0 := (Lb.new h 59 #[.string ⟨#[]⟩, .string ⟨#[]⟩, .string ⟨#[]⟩, .int .i64 0, .string ⟨#[]⟩, .slice none 0 0, .slice none 0 0]).made #[.string ⟨#[]⟩, .string ⟨#[]⟩, .string ⟨#[]⟩, .int .i64 0, .string ⟨#[]⟩, .slice none 0 0, .slice none 0 0]
  have hgs : (w.alloc (.cells #[.string ⟨#[]⟩, .string ⟨#[]⟩, .string ⟨#[]⟩, .int .i64 0, .string ⟨#[]⟩, .slice none 0 0, .slice none 0 0] 59 (0, 0))).heap.size = w.heap.size + 1 := by simp
  rw [hgs] at G0
  have HC1 := pMust_any [36] _ G0.b.p.1
  have HM := Lib.hid (show vdM c.z s = (⟨(nmM c.z (sgM c.z [36] s)).1, (tyM c.z (sgM c.z [58] (nmM c.z (sgM c.z [36] s)).2)).1, (dfltM c.z (tyM c.z (sgM c.z [58] (nmM c.z (sgM c.z [36] s)).2)).2).1⟩, (dfltM c.z (tyM c.z (sgM c.z [58] (nmM c.z (sgM c.z [36] s)).2)).2).2) from rfl)
  have HG0 := Lib.hid G0
  generalize sgM c.z [36] s = s1 at *
  generalize vdM c.z s = RES at *
  clear G0 h hgs
  go_enter Tryz.func250, Tryz.ntmps250
  go_wp2_with fail
  refine HC1.mono ?_
  rintro e w1 ⟨rfl, p1⟩
  have G1 := HG0.out.call p1
  have HG1 := Lib.hid G1.1
  have HC2 := pNm_any w1 G1.1.b.p.1
  have HZ := Lib.hid (nmM_size G1.1.b.p.1)
  generalize nmM c.z s1 = R1 at *
  obtain ⟨nm, s2⟩ := R1
  dsimp only at HC2 HM HZ
  clear p1 G1 HC1 HG0
  go_wp2_with fail
  refine HC2.mono ?_
  rintro e w2 ⟨rfl, p2⟩
  have G2 := HG1.out.call p2
  have T2 := G2.1.set 0 (.string ⟨nm.toArray⟩)
  have HT2 := Lib.hid T2.1
  obtain ⟨b0, b1, b2, b3, b4, b5, b6, bf, bl⟩ := blk7 G2.1.h1
  have HC3 := pMust_any [58] _ T2.1.b.p.1
  clear p2 G2 HC2 HG1 T2
  go_wp2_with fail
  refine HC3.mono ?_
  rintro e w3 ⟨rfl, p3⟩
  have G3 := HT2.out.call p3
  have HG3 := Lib.hid G3.1
  generalize sgM c.z [58] s2 = s3 at *
  have HC4 := pType_any w3 G3.1.b.p.1
  have HTZ := Lib.hid (tyM_size G3.1.b.p.1)
  generalize tyM c.z s3 = RT at *
  obtain ⟨⟨tn, tw⟩, s4⟩ := RT
  dsimp only at HC4 HM HTZ
  clear p3 G3 HC3 HT2 b0 b1 b2 b3 b4 b5 b6 bf bl
  go_wp2_with fail
  refine HC4.mono ?_
  rintro e w4 ⟨rfl, p4⟩
  have G4 := HG3.out.call p4
  have T4 := G4.1.set 1 (.string ⟨tn.toArray⟩)
  have T5 := T4.1.set 2 (.string ⟨tw.toArray⟩)
  have HT5 := Lib.hid T5.1
  obtain ⟨b0, b1, b2, b3, b4, b5, b6, bf, bl⟩ := blk7 G4.1.h1
  have HC5 := pTakeSign_any [61] _ T5.1.b.p.1
  have HO := Lib.hid (show dfltM c.z s4 = if isSg [61] (hdT s4.l) then coM c.z (tlM s4) else (vz, s4) from rfl)
  have HDV := Lib.hid (dfltM_small T5.1.b.p.1)
  generalize dfltM c.z s4 = RD at *
  obtain ⟨dv, s5⟩ := RD
  dsimp only at HM HDV
  clear p4 G4 HC4 HG3 T4 T5
  go_wp2_with fail
  refine HC5.mono ?_
  rintro e w5 ⟨rfl, p5⟩
  have G5 := HT5.out.call p5
  have HG5 := Lib.hid G5.1
  clear b0 b1 b2 b3 b4 b5 b6 bf bl
  obtain ⟨b0, b1, b2, b3, b4, b5, b6, bf, bl⟩ := blk7 G5.1.h1
  clear p5 G5 HC5 HT5
  go_upto_if 15 with fail
  go_cut [] (fun wc => ∃ kk ss an ln cn ap lp cp, Lg c k w 59 (w.heap.size + 1) #[.string ⟨#[]⟩, .string ⟨#[]⟩, .string ⟨#[]⟩, .int .i64 0, .string ⟨#[]⟩, .slice none 0 0, .slice none 0 0] #[.string ⟨nm.toArray⟩, .string ⟨tn.toArray⟩, .string ⟨tw.toArray⟩, .int .i64 kk, .string ss, .slice an ln cn, .slice ap lp cp] s5 wc ∧ RdD wc (Dg w (w.heap.size + 1) wc) 13 dv (.agg #[.int .i64 kk, .string ss, .slice an ln cn, .slice ap lp cp]))
  case first =>
    cases hi : isSg [61] (hdT s4.l) with
    | true =>
      rw [hi] at HO HG5
      simp only [reduceIte] at HO HG5
      have HC6 := pConst_any w5 HG5.out.b.p.1
      rw [← HO.out] at HC6
      clear hi HO
      go_wp2_with fail
      refine HC6.mono ?_
      rintro e w6 ⟨kk, ss, an, ln, cn, ap, lp, cp, rfl, hR, p6⟩
      dsimp only at hR p6
      have G6 := HG5.out.call p6
      have hd := RdD.step (D' := Dg w (w.heap.size + 1) w6) (w' := w6) (dg_of HG5.out) (fun _ _ _ => rfl) hR
      have T6 := G6.1.set 3 (.int .i64 kk)
      have T7 := T6.1.set 4 (.string ss)
      have T8 := T7.1.set 5 (.slice an ln cn)
      have T9 := T8.1.set 6 (.slice ap lp cp)
      have HX := Lib.hid (And.intro T9.1 ((((T6.2.trans T7.2).trans T8.2).trans T9.2).rd hd))
      clear b0 b1 b2 b3 b4 b5 b6 bf bl
      obtain ⟨b0, b1, b2, b3, b4, b5, b6, bf, bl⟩ := blk7 G6.1.h1
      clear p6 G6 HC6 HG5 hR hd T6 T7 T8 T9
      go_wp2_with fail
      go_meet
      case rel => exact ⟨kk, ss, an, ln, cn, ap, lp, cp, HX.out⟩
    | false =>
      rw [hi] at HO HG5
      simp only [reduceIte, Bool.false_eq_true] at HO HG5
      have ho := HO.out
      injection ho with ho1 ho2
      subst ho1 ho2
      clear hi HO
      go_wp2_with fail
      go_meet
      case rel => exact ⟨0, ⟨#[]⟩, none, 0, 0, none, 0, 0, HG5.out, rd_leaf _ _ 12 0 ⟨#[]⟩ (Nat.zero_le _)⟩
  case rest =>
    obtain ⟨kk, ss, an, ln, cn, ap, lp, cp, G8, hV⟩ := hcut
    have U := G8.fin7 (.string ⟨nm.toArray⟩) (.string ⟨tn.toArray⟩) (.string ⟨tw.toArray⟩) (.int .i64 kk) (.string ss) (.slice an ln cn) (.slice ap lp cp)
    have HV := Lib.hid (U.2.rd hV)
    have HU := Lib.hid U.1
    clear b0 b1 b2 b3 b4 b5 b6 bf bl
    obtain ⟨b0, b1, b2, b3, b4, b5, b6, bf, bl⟩ := blk7 G8.h1
    obtain ⟨a0, a1, a2, a3, a4, a5, a6, af, al2⟩ := blk7 G8.b.h0
    obtain ⟨f0, f1, f2, f3, f4, f5, f6, -, -⟩ := blk7 U.1.b.h0
    have HF := Lib.hid (And.intro f0 (And.intro f1 (And.intro f2 (And.intro f3 (And.intro f4 (And.intro f5 f6))))))
    clear G8 U hV HG5 f0 f1 f2 f3 f4 f5 f6 HO
    go_wp2_with fail
    obtain ⟨f0, f1, f2, f3, f4, f5, f6⟩ := HF.out
    refine bodyPost_ret (v := .agg #[.string ⟨nm.toArray⟩, .string ⟨tn.toArray⟩, .string ⟨tw.toArray⟩, .int .i64 kk, .string ss, .slice an ln cn, .slice ap lp cp]) (by simp [results, Tryz.results250, go_sem, f0, f1, f2, f3, f4, f5, f6]) rfl ?_
    rw [HM.out]
    exact ⟨[.string ⟨nm.toArray⟩, .string ⟨tn.toArray⟩, .string ⟨tw.toArray⟩, .int .i64 kk, .string ss, .slice an ln cn, .slice ap lp cp], rfl, varOk.step dg_fin (fun _ _ _ => rfl) ⟨⟨HZ.out, HTZ.out.1, HTZ.out.2, HDV.out⟩, _, _, _, _, rfl, 13, HV.out⟩, HU.out.b.p⟩

end Go.Proofs.YtkfllppggjhhmaaGreatDoor
/-
  doc's parser: an operation, a fragment.
-/
namespace Go.Proofs.YtkfllppggjhhmaaGreatDoor
open Go.RowKit

theorem Lg.fin5 {c : Cx} {k : Nat} {w : World} {T : TypeId} {g : Nat} {b1 : Array Value} {s : Ms} {W : World} {z0 z1 z2 z3 z4 : Value} (h : Lg c k w T g #[z0, z1, z2, z3, z4] b1 s W) (c0 c1 c2 c3 c4 : Value) :
    Lg c k w T g #[c0, c1, c2, c3, c4] b1 s (((((W.setCell ⟨w.heap.size, 0, none⟩ c0).setCell ⟨w.heap.size, 1, none⟩ c1).setCell ⟨w.heap.size, 2, none⟩ c2).setCell ⟨w.heap.size, 3, none⟩ c3).setCell ⟨w.heap.size, 4, none⟩ c4) ∧ Kp w g W (((((W.setCell ⟨w.heap.size, 0, none⟩ c0).setCell ⟨w.heap.size, 1, none⟩ c1).setCell ⟨w.heap.size, 2, none⟩ c2).setCell ⟨w.heap.size, 3, none⟩ c3).setCell ⟨w.heap.size, 4, none⟩ c4) := by
  have U0 := h.finE 0 c0 (b0' := #[c0, z1, z2, z3, z4]) rfl
  have U1 := U0.1.finE 1 c1 (b0' := #[c0, c1, z2, z3, z4]) rfl
  have U2 := U1.1.finE 2 c2 (b0' := #[c0, c1, c2, z3, z4]) rfl
  have U3 := U2.1.finE 3 c3 (b0' := #[c0, c1, c2, c3, z4]) rfl
  have U4 := U3.1.finE 4 c4 (b0' := #[c0, c1, c2, c3, c4]) rfl
  exact ⟨U4.1, ((((U0.2).trans U1.2).trans U2.2).trans U3.2).trans U4.2⟩
theorem Lg.fin4 {c : Cx} {k : Nat} {w : World} {T : TypeId} {g : Nat} {b1 : Array Value} {s : Ms} {W : World} {z0 z1 z2 z3 : Value} (h : Lg c k w T g #[z0, z1, z2, z3] b1 s W) (c0 c1 c2 c3 : Value) :
    Lg c k w T g #[c0, c1, c2, c3] b1 s ((((W.setCell ⟨w.heap.size, 0, none⟩ c0).setCell ⟨w.heap.size, 1, none⟩ c1).setCell ⟨w.heap.size, 2, none⟩ c2).setCell ⟨w.heap.size, 3, none⟩ c3) ∧ Kp w g W ((((W.setCell ⟨w.heap.size, 0, none⟩ c0).setCell ⟨w.heap.size, 1, none⟩ c1).setCell ⟨w.heap.size, 2, none⟩ c2).setCell ⟨w.heap.size, 3, none⟩ c3) := by
  have U0 := h.finE 0 c0 (b0' := #[c0, z1, z2, z3]) rfl
  have U1 := U0.1.finE 1 c1 (b0' := #[c0, c1, z2, z3]) rfl
  have U2 := U1.1.finE 2 c2 (b0' := #[c0, c1, c2, z3]) rfl
  have U3 := U2.1.finE 3 c3 (b0' := #[c0, c1, c2, c3]) rfl
  exact ⟨U3.1, (((U0.2).trans U1.2).trans U2.2).trans U3.2⟩

set_option maxHeartbeats 2000000 in
set_option maxRecDepth 100000 in
theorem pFragName_any {c : Cx} {k : Nat} {s : Ms} (w : World) (h : Pv c k s w) : Calls Tryz.prog 186 #[.pointer (some ⟨c.R, 0, none⟩)] w fun e w' => e = .returned (.string ⟨(fnmM c.z s).1.toArray⟩) ∧ Pw c k (fnmM c.z s).2 w w' := by
  have HT := pWord_any onS w h
  have HM := Lib.hid (show fnmM c.z s = nmM c.z (if isWd onS (hdT s.l) then failM c.z 2 s else s) from rfl)
  have HH := Lib.hid h
  generalize fnmM c.z s = RES at *
  cases hi : isWd onS (hdT s.l) with
  | true =>
    rw [hi] at HT HM
    simp only [reduceIte] at HM
    clear hi h
    go_enter Tryz.func186, Tryz.ntmps186
    go_wp2_with fail
    refine HT.mono ?_
    rintro e w1 ⟨rfl, hb⟩
    have HF := pFail_any 2 w1 (HH.out.below hb HH.out.hN)
    have HB := Lib.hid hb
    clear HT hb
    go_wp2_with fail
    refine HF.mono ?_
    rintro e w2 ⟨rfl, p2⟩
    have HP := Lib.hid (((Pw.refl HH.out).below HB.out).trans p2)
    have HN := pNm_any w2 p2.1
    clear p2 HF
    go_wp2_with fail
    refine HN.mono ?_
    rintro e w3 ⟨rfl, p3⟩
    have HX := Lib.hid (HP.out.trans p3)
    clear p3 HN
    go_wp2_with fail
    go_ret
    rw [HM.out]
    exact ⟨rfl, HX.out⟩
  | false =>
    rw [hi] at HT HM
    simp only [reduceIte, Bool.false_eq_true] at HM
    clear hi h
    go_enter Tryz.func186, Tryz.ntmps186
    go_wp2_with fail
    refine HT.mono ?_
    rintro e w2 ⟨rfl, hb⟩
    have HP := Lib.hid ((Pw.refl HH.out).below hb)
    have HN := pNm_any w2 HP.out.1
    clear hb HT
    go_wp2_with fail
    refine HN.mono ?_
    rintro e w3 ⟨rfl, p3⟩
    have HX := Lib.hid (HP.out.trans p3)
    clear p3 HN
    go_wp2_with fail
    go_ret
    rw [HM.out]
    exact ⟨rfl, HX.out⟩
theorem fnmM_size {c : Cx} {k : Nat} {s : Ms} {w : World} (h : Pv c k s w) : (fnmM c.z s).1.length ≤ 2000000 := by
  unfold fnmM
  split
  · unfold nmM
    split
    · have h2 : (hdT (failM c.z 2 s).l).s.length ≤ 2000000 := by
        unfold failM
        split
        · exact Nat.zero_le _
        · exact hdT_size h
      exact h2
    · exact Nat.zero_le _
  · exact nmM_size h

set_option maxHeartbeats 8000000 in
set_option maxRecDepth 100000 in
theorem pFrag_any {c : Cx} {s : Ms} (w : World) (h : Pv c 0 s w) : Calls Tryz.prog 137 #[.pointer (some ⟨c.R, 0, none⟩)] w (RecAns FragE c 0 w (fraM c.z s)) := by
  have G0 := (Lb.new h 61 #[.string ⟨#[]⟩, .string ⟨#[]⟩, .slice none 0 0, .slice none 0 0]).made #[.string ⟨#[]⟩, .string ⟨#[]⟩, .slice none 0 0, .slice none 0 0]
  have hgs : (w.alloc (.cells #[.string ⟨#[]⟩, .string ⟨#[]⟩, .slice none 0 0, .slice none 0 0] 61 (0, 0))).heap.size = w.heap.size + 1 := by simp
  rw [hgs] at G0
  have HC1 := pFragName_any _ G0.b.p.1
  have HZ := Lib.hid (fnmM_size G0.b.p.1)
  have HM := Lib.hid (show fraM c.z s = (⟨(fnmM c.z s).1, (nmM c.z (wdM c.z onS (fnmM c.z s).2)).1, (dirM c.z (nmM c.z (wdM c.z onS (fnmM c.z s).2)).2).1, (setM c.z 12 (dirM c.z (nmM c.z (wdM c.z onS (fnmM c.z s).2)).2).2).1⟩, (setM c.z 12 (dirM c.z (nmM c.z (wdM c.z onS (fnmM c.z s).2)).2).2).2) from rfl)
  have HG0 := Lib.hid G0
  generalize fnmM c.z s = R1 at *
  generalize fraM c.z s = RES at *
  obtain ⟨nm, s1⟩ := R1
  dsimp only at HC1 HM HZ
  clear G0 h hgs
  go_enter Tryz.func137, Tryz.ntmps137
  go_wp2_with fail
  refine HC1.mono ?_
  rintro e w1 ⟨rfl, p1⟩
  have G1 := HG0.out.call p1
  have T1 := G1.1.set 0 (.string ⟨nm.toArray⟩)
  have HT1 := Lib.hid T1.1
  obtain ⟨b0, b1, b2, b3, bf, bl⟩ := blk4 G1.1.h1
  have HC2 := pMustWord_any onS _ T1.1.b.p.1
  generalize wdM c.z onS s1 = s2 at *
  clear p1 G1 HC1 HG0 T1
  go_wp2_with fail
  refine HC2.mono ?_
  rintro e w2 ⟨rfl, p2⟩
  have G2 := HT1.out.call p2
  have HG2 := Lib.hid G2.1
  have HC3 := pNm_any w2 G2.1.b.p.1
  have HZ2 := Lib.hid (nmM_size G2.1.b.p.1)
  generalize nmM c.z s2 = R1 at *
  obtain ⟨on_, s3⟩ := R1
  dsimp only at HC3 HM HZ2
  clear p2 G2 HC2 HT1 b0 b1 b2 b3 bf bl
  go_wp2_with fail
  refine HC3.mono ?_
  rintro e w3 ⟨rfl, p3⟩
  have G3 := HG2.out.call p3
  have T3 := G3.1.set 1 (.string ⟨on_.toArray⟩)
  have HT3 := Lib.hid T3.1
  obtain ⟨b0, b1, b2, b3, bf, bl⟩ := blk4 G3.1.h1
  have HC4 := pDirs_any _ T3.1.b.p.1
  clear p3 G3 HC3 HG2 T3
  go_wp2_with fail
  refine HC4.mono ?_
  rintro e w4 ⟨v, rfl, hR, p4⟩
  have G4 := HT3.out.call p4
  have hd := RowD.step (D' := Dg w (w.heap.size + 1) w4) (w' := w4) dirOk (dg_of HT3.out) (fun _ _ _ => rfl) hR
  generalize dirM c.z s3 = RD at *
  obtain ⟨ds, s4⟩ := RD
  dsimp only at HM hd G4 hR
  obtain ⟨va, vc, rfl⟩ := hR.shape
  have T4 := G4.1.set 2 (.slice va ds.length vc)
  have HC5 := pSet_any (c := c) 12 0 rfl s4 _ T4.1.b.p.1
  have HD4 := Lib.hid (T4.2.row dirOk hd)
  have HT4 := Lib.hid T4.1
  clear b0 b1 b2 b3 bf bl
  obtain ⟨b0, b1, b2, b3, bf, bl⟩ := blk4 G4.1.h1
  clear p4 G4 HC4 HT3 hR hd T4
  go_wp2_with fail
  refine HC5.mono ?_
  rintro e w5 ⟨v, rfl, hR, p5⟩
  have G5 := HT4.out.call p5
  have hd := RowD.step (D' := Dg w (w.heap.size + 1) w5) (w' := w5) (selOk 12) (dg_of HT4.out) (fun _ _ _ => rfl) hR
  have hd3 := G5.2.row dirOk HD4.out
  generalize setM c.z 12 s4 = RS at *
  obtain ⟨ss, s5⟩ := RS
  dsimp only at HM hd G5 hR
  obtain ⟨xa, xc, rfl⟩ := hR.shape
  have T5 := G5.1.set 3 (.slice xa ss.length xc)
  have U := T5.1.fin4 (.string ⟨nm.toArray⟩) (.string ⟨on_.toArray⟩) (.slice va ds.length vc) (.slice xa ss.length xc)
  have HK := Lib.hid (T5.2.trans U.2)
  have HRD := Lib.hid hd
  have HRD3 := Lib.hid hd3
  have HU := Lib.hid U.1
  clear b0 b1 b2 b3 bf bl
  obtain ⟨b0, b1, b2, b3, bf, bl⟩ := blk4 G5.1.h1
  obtain ⟨a0, a1, a2, a3, af, al⟩ := blk4 G5.1.b.h0
  obtain ⟨f0, f1, f2, f3, -, -⟩ := blk4 U.1.b.h0
  have HF := Lib.hid (And.intro f0 (And.intro f1 (And.intro f2 f3)))
  clear p5 G5 HC5 HT4 hR hd hd3 T5 U f0 f1 f2 f3 HD4
  go_wp2_with fail
  obtain ⟨f0, f1, f2, f3⟩ := HF.out
  refine bodyPost_ret (v := .agg #[.string ⟨nm.toArray⟩, .string ⟨on_.toArray⟩, .slice va ds.length vc, .slice xa ss.length xc]) (by simp [results, Tryz.results137, go_sem, f0, f1, f2, f3]) rfl ?_
  rw [HM.out]
  exact ⟨[.string ⟨nm.toArray⟩, .string ⟨on_.toArray⟩, .slice va ds.length vc, .slice xa ss.length xc], rfl, fragOk.step dg_fin (fun _ _ _ => rfl) ⟨⟨HZ.out, HZ2.out⟩, _, _, rfl, HK.out.row dirOk HRD3.out, 12, HK.out.row (selOk 12) HRD.out⟩, HU.out.b.p⟩

theorem nnM_size {c : Cx} {k : Nat} {s : Ms} {w : World} (h : Pv c k s w) : (nnM c.z s).1.length ≤ 2000000 := by
  unfold nnM
  split
  · exact nmM_size h
  · exact Nat.zero_le _
set_option maxHeartbeats 8000000 in
set_option maxRecDepth 100000 in
theorem pHead_any {c : Cx} {s : Ms} (w : World) (h : Pv c 0 s w) : Calls Tryz.prog 192 #[.pointer (some ⟨c.R, 0, none⟩)] w (RecAns OpE c 0 w (hedM c.z s)) := by
  have L0 := Lb.new h 45 #[.bool false, .string ⟨#[]⟩, .slice none 0 0, .slice none 0 0, .slice none 0 0]
  have HL0 := Lib.hid L0
  have HC1 := pTakeWord_any mutS _ L0.p.1
  have HM := Lib.hid (show hedM c.z s = (⟨(mqM c.z s).1, (nnM c.z (mqM c.z s).2).1, (varsM c.z (nnM c.z (mqM c.z s).2).2).1, (dirM c.z (varsM c.z (nnM c.z (mqM c.z s).2).2).2).1, []⟩, (dirM c.z (varsM c.z (nnM c.z (mqM c.z s).2).2).2).2) from rfl)
  have HO := Lib.hid (show mqM c.z s = if isWd mutS (hdT s.l) then (true, tlM s) else (false, wdM c.z queryS s) from rfl)
  generalize hedM c.z s = RES at *
  generalize mqM c.z s = RQ at *
  obtain ⟨mu, s1⟩ := RQ
  dsimp only at HM
  clear L0 h
  go_enter Tryz.func192, Tryz.ntmps192
  go_wp2_with fail
  refine HC1.mono ?_
  rintro e w1 ⟨rfl, p1⟩
  have G1 := (HL0.out.call p1).made #[.bool (isWd mutS (hdT s.l)), .string ⟨#[]⟩, .slice none 0 0, .slice none 0 0, .slice none 0 0]
  have hlt := HL0.out.sz
  have hlt1 := (HL0.out.call p1).sz
  have HG1 := Lib.hid G1
  have hbw : w1.heap.size ≠ w.heap.size := by omega
  clear p1 G1 HC1 HL0
  go_upto_if 9 with fail
  go_cut [] (fun wc => Lg c 0 w 45 w1.heap.size #[.bool false, .string ⟨#[]⟩, .slice none 0 0, .slice none 0 0, .slice none 0 0] #[.bool mu, .string ⟨#[]⟩, .slice none 0 0, .slice none 0 0, .slice none 0 0] s1 wc)
  case first =>
    cases hi : isWd mutS (hdT s.l) with
    | true =>
      rw [hi] at HO HG1
      simp only [reduceIte] at HO HG1
      have ho := HO.out
      injection ho with ho1 ho2
      subst ho1 ho2
      clear hi HO
      go_wp2_with fail
      go_meet
      case rel => exact HG1.out
    | false =>
      rw [hi] at HO HG1
      simp only [reduceIte, Bool.false_eq_true] at HO HG1
      have ho := HO.out
      injection ho with ho1 ho2
      subst ho1 ho2
      have HC2 := pMustWord_any queryS _ HG1.out.b.p.1
      clear hi HO
      go_wp2_with fail
      refine HC2.mono ?_
      rintro e w2 ⟨rfl, p2⟩
      have G2 := Lib.hid (HG1.out.call p2).1
      clear p2 HC2 HG1
      go_wp2_with fail
      go_meet
      case rel => exact G2.out
  case rest =>
    have G3 := hcut
    have HC2 := pNmOr_any _ G3.b.p.1
    have HZ := Lib.hid (nnM_size G3.b.p.1)
    have HG3 := Lib.hid G3
    generalize nnM c.z s1 = R1 at *
    obtain ⟨nm, s2⟩ := R1
    dsimp only at HC2 HM HZ
    clear G3 HG1 hcut HO
    go_wp2_with fail
    refine HC2.mono ?_
    rintro e w3 ⟨rfl, p3⟩
    have G4 := HG3.out.call p3
    have T4 := G4.1.set 1 (.string ⟨nm.toArray⟩)
    have HT4 := Lib.hid T4.1
    obtain ⟨b0, b1, b2, b3, b4, bf, bl⟩ := blk5 G4.1.h1
    have HC3 := sonVar_any [40] [41] (vdM c.z) _ T4.1.b.p.1 (fun s' W h' => pVar_any W h') (fun s' _ h2 => (vdM_eats c.z s').lt h2)
    have HVM := Lib.hid (show varsM c.z s2 = soM c.z [40] [41] (vdM c.z) s2 from rfl)
    rw [← HVM.out] at HC3
    clear p3 G4 HC2 HG3 T4 HVM
    go_wp2_with fail
    refine HC3.mono ?_
    rintro e w4 ⟨v, rfl, hR, p4⟩
    have G5 := HT4.out.call p4
    have hd := RowD.step (D' := Dg w w1.heap.size w4) (w' := w4) varOk (dg_of HT4.out) (fun _ _ _ => rfl) hR
    generalize varsM c.z s2 = RD at *
    obtain ⟨vs, s3⟩ := RD
    dsimp only at HM hd G5 hR
    obtain ⟨va, vc, rfl⟩ := hR.shape
    have T5 := G5.1.set 2 (.slice va vs.length vc)
    have HC4 := pDirs_any _ T5.1.b.p.1
    have HD5 := Lib.hid (T5.2.row varOk hd)
    have HT5 := Lib.hid T5.1
    clear b0 b1 b2 b3 b4 bf bl
    obtain ⟨b0, b1, b2, b3, b4, bf, bl⟩ := blk5 G5.1.h1
    clear p4 G5 HC3 HT4 hR hd T5
    go_wp2_with fail
    refine HC4.mono ?_
    rintro e w5 ⟨v, rfl, hR, p5⟩
    have G6 := HT5.out.call p5
    have hd := RowD.step (D' := Dg w w1.heap.size w5) (w' := w5) dirOk (dg_of HT5.out) (fun _ _ _ => rfl) hR
    have hd3 := G6.2.row varOk HD5.out
    generalize dirM c.z s3 = RS at *
    obtain ⟨ds, s5⟩ := RS
    dsimp only at HM hd G6 hR
    obtain ⟨xa, xc, rfl⟩ := hR.shape
    have T6 := G6.1.set 3 (.slice xa ds.length xc)
    have U := T6.1.fin5 (.bool mu) (.string ⟨nm.toArray⟩) (.slice va vs.length vc) (.slice xa ds.length xc) (.slice none 0 0)
    have HK := Lib.hid (T6.2.trans U.2)
    have HRD := Lib.hid hd
    have HRD3 := Lib.hid hd3
    have HU := Lib.hid U.1
    clear b0 b1 b2 b3 b4 bf bl
    obtain ⟨b0, b1, b2, b3, b4, bf, bl⟩ := blk5 G6.1.h1
    obtain ⟨a0, a1, a2, a3, a4, af, al⟩ := blk5 G6.1.b.h0
    obtain ⟨f0, f1, f2, f3, f4, -, -⟩ := blk5 U.1.b.h0
    have HF := Lib.hid (And.intro f0 (And.intro f1 (And.intro f2 (And.intro f3 f4))))
    clear p5 G6 HC4 HT5 hR hd hd3 T6 U f0 f1 f2 f3 f4 HD5
    go_wp2_with fail
    obtain ⟨f0, f1, f2, f3, f4⟩ := HF.out
    refine bodyPost_ret (v := .agg #[.bool mu, .string ⟨nm.toArray⟩, .slice va vs.length vc, .slice xa ds.length xc, .slice none 0 0]) (by simp [results, Tryz.results192, go_sem, f0, f1, f2, f3, f4]) rfl ?_
    rw [HM.out]
    exact ⟨[.bool mu, .string ⟨nm.toArray⟩, .slice va vs.length vc, .slice xa ds.length xc, .slice none 0 0], rfl, opOk.step dg_fin (fun _ _ _ => rfl) ⟨HZ.out, _, _, _, rfl, HK.out.row varOk HRD3.out, HK.out.row dirOk HRD.out, 0, .nil⟩, HU.out.b.p⟩

end Go.Proofs.YtkfllppggjhhmaaGreatDoor
/-
  doc's parser: an operation whole.
-/
namespace Go.Proofs.YtkfllppggjhhmaaGreatDoor
open Go.RowKit

set_option maxHeartbeats 8000000 in
set_option maxRecDepth 100000 in
theorem pOper_any {c : Cx} {s : Ms} (w : World) (h : Pv c 0 s w) : Calls Tryz.prog 138 #[.pointer (some ⟨c.R, 0, none⟩)] w (RecAns OpE c 0 w (opeM c.z s)) := by
  have G0 := (Lb.new h 45 #[.bool false, .string ⟨#[]⟩, .slice none 0 0, .slice none 0 0, .slice none 0 0]).made #[.bool false, .string ⟨#[]⟩, .slice none 0 0, .slice none 0 0, .slice none 0 0]
  have hgs : (w.alloc (.cells #[.bool false, .string ⟨#[]⟩, .slice none 0 0, .slice none 0 0, .slice none 0 0] 45 (0, 0))).heap.size = w.heap.size + 1 := by simp
  rw [hgs] at G0
  have HC1 := pSign_any [123] _ G0.b.p.1
  have HM := Lib.hid (show opeM c.z s = (⟨(oheM c.z s).1.mut_, (oheM c.z s).1.nm, (oheM c.z s).1.vars, (oheM c.z s).1.dirs, (setM c.z 12 (oheM c.z s).2).1⟩, (setM c.z 12 (oheM c.z s).2).2) from rfl)
  have HO := Lib.hid (show oheM c.z s = if isSg [123] (hdT s.l) then (⟨false, [], [], [], []⟩, s) else hedM c.z s from rfl)
  have HG0 := Lib.hid G0
  generalize opeM c.z s = RES at *
  generalize oheM c.z s = RQ at *
  obtain ⟨⟨mu, nm, vs, ds, ss0⟩, s1⟩ := RQ
  dsimp only at HM
  clear G0 h hgs
  go_enter Tryz.func138, Tryz.ntmps138
  go_wp2_with fail
  refine HC1.mono ?_
  rintro e w1 ⟨rfl, hb1⟩
  have G1 := HG0.out.below hb1
  have HG1 := Lib.hid G1.1
  obtain ⟨b0, b1, b2, b3, b4, bf, bl⟩ := blk5 G1.1.h1
  clear hb1 G1 HC1 HG0
  go_upto_if 6 with fail
  go_cut [] (fun wc => ∃ va vc xa xc sa sl sc, Lg c 0 w 45 (w.heap.size + 1) #[.bool false, .string ⟨#[]⟩, .slice none 0 0, .slice none 0 0, .slice none 0 0] #[.bool mu, .string ⟨nm.toArray⟩, .slice va vs.length vc, .slice xa ds.length xc, .slice sa sl sc] s1 wc ∧ nm.length ≤ 2000000 ∧ RowD VarE 7 wc (Dg w (w.heap.size + 1) wc) vs (.slice va vs.length vc) ∧ RowD DirE 2 wc (Dg w (w.heap.size + 1) wc) ds (.slice xa ds.length xc))
  case first =>
    cases hi : isSg [123] (hdT s.l) with
    | true =>
      rw [hi] at HO
      simp only [reduceIte] at HO
      have ho := HO.out
      injection ho with ho1 ho2
      injection ho1 with q1 q2 q3 q4 q5
      subst q1 q2 q3 q4 q5 ho2
      clear hi HO
      go_wp2_with fail
      go_meet
      case rel => exact ⟨none, 0, none, 0, none, 0, 0, HG1.out, by decide, .nil, .nil⟩
    | false =>
      rw [hi] at HO
      simp only [reduceIte, Bool.false_eq_true] at HO
      have HC2 := pHead_any _ HG1.out.b.p.1
      rw [← HO.out] at HC2
      clear hi HO
      go_wp2_with fail
      refine HC2.mono ?_
      rintro e w2 ⟨es, hee, hE, p2⟩
      dsimp only at hE p2
      obtain ⟨hz, vv, vd, vx, rfl, hv1, hd1, hs1⟩ := hE
      have G2 := HG1.out.call p2
      have hv2 := RowD.step (D' := Dg w (w.heap.size + 1) w2) (w' := w2) varOk (dg_of HG1.out) (fun _ _ _ => rfl) hv1
      have hd2 := RowD.step (D' := Dg w (w.heap.size + 1) w2) (w' := w2) dirOk (dg_of HG1.out) (fun _ _ _ => rfl) hd1
      obtain ⟨va, vc, rfl⟩ := hv1.shape
      obtain ⟨xa, xc, rfl⟩ := hd1.shape
      obtain ⟨sa, sc, rfl⟩ := hs1.shape
      dsimp only at hee hz hv2 hd2 hs1
      have hee : e = .returned (.agg #[.bool mu, .string ⟨nm.toArray⟩, .slice va vs.length vc, .slice xa ds.length xc, .slice sa ss0.length sc]) := hee
      subst hee
      have T0 := G2.1.set 0 (.bool mu)
      have T1 := T0.1.set 1 (.string ⟨nm.toArray⟩)
      have T2 := T1.1.set 2 (.slice va vs.length vc)
      have T3 := T2.1.set 3 (.slice xa ds.length xc)
      have T4 := T3.1.set 4 (.slice sa ss0.length sc)
      have hk := (((T0.2.trans T1.2).trans T2.2).trans T3.2).trans T4.2
      have HX := Lib.hid (show _ ∧ _ ∧ _ ∧ _ from ⟨T4.1, hz, hk.row varOk hv2, hk.row dirOk hd2⟩)
      clear b0 b1 b2 b3 b4 bf bl
      obtain ⟨b0, b1, b2, b3, b4, bf, bl⟩ := blk5 G2.1.h1
      clear p2 G2 HC2 HG1 T0 T1 T2 T3 T4 hk hv1 hv2 hd1 hd2 hs1
      go_wp2_with fail
      go_meet
      case rel => exact ⟨va, vc, xa, xc, sa, ss0.length, sc, HX.out⟩
  case rest =>
    obtain ⟨va, vc, xa, xc, sa, sl, sc, G3, hz, hV, hD⟩ := hcut
    have HZ := Lib.hid hz
    have HV := Lib.hid hV
    have HD := Lib.hid hD
    have HG3 := Lib.hid G3
    have HC2 := pSet_any (c := c) 12 0 rfl s1 _ G3.b.p.1
    clear G3 hz hV hD HG1 HO b0 b1 b2 b3 b4 bf bl
    go_wp2_with fail
    refine HC2.mono ?_
    rintro e w5 ⟨v, rfl, hR, p5⟩
    have G5 := HG3.out.call p5
    have hd := RowD.step (D' := Dg w (w.heap.size + 1) w5) (w' := w5) (selOk 12) (dg_of HG3.out) (fun _ _ _ => rfl) hR
    have hv5 := G5.2.row varOk HV.out
    have hd5 := G5.2.row dirOk HD.out
    generalize setM c.z 12 s1 = RS at *
    obtain ⟨ss, s5⟩ := RS
    dsimp only at HM hd G5 hR
    obtain ⟨ya, yc, rfl⟩ := hR.shape
    have T5 := G5.1.set 4 (.slice ya ss.length yc)
    have U := T5.1.fin5 (.bool mu) (.string ⟨nm.toArray⟩) (.slice va vs.length vc) (.slice xa ds.length xc) (.slice ya ss.length yc)
    have hk := T5.2.trans U.2
    have HRS := Lib.hid (hk.row (selOk 12) hd)
    have HRV := Lib.hid (hk.row varOk hv5)
    have HRD := Lib.hid (hk.row dirOk hd5)
    have HU := Lib.hid U.1
    obtain ⟨b0, b1, b2, b3, b4, bf, bl⟩ := blk5 G5.1.h1
    obtain ⟨a0, a1, a2, a3, a4, af, al⟩ := blk5 G5.1.b.h0
    obtain ⟨f0, f1, f2, f3, f4, -, -⟩ := blk5 U.1.b.h0
    have HF := Lib.hid (And.intro f0 (And.intro f1 (And.intro f2 (And.intro f3 f4))))
    clear p5 G5 HC2 HG3 hR hd hv5 hd5 T5 U hk f0 f1 f2 f3 f4 HV HD
    go_wp2_with fail
    obtain ⟨f0, f1, f2, f3, f4⟩ := HF.out
    refine bodyPost_ret (v := .agg #[.bool mu, .string ⟨nm.toArray⟩, .slice va vs.length vc, .slice xa ds.length xc, .slice ya ss.length yc]) (by simp [results, Tryz.results138, go_sem, f0, f1, f2, f3, f4]) rfl ?_
    rw [HM.out]
    exact ⟨[.bool mu, .string ⟨nm.toArray⟩, .slice va vs.length vc, .slice xa ds.length xc, .slice ya ss.length yc], rfl, opOk.step dg_fin (fun _ _ _ => rfl) ⟨HZ.out, _, _, _, rfl, HRV.out, HRD.out, 12, HRS.out⟩, HU.out.b.p⟩

end Go.Proofs.YtkfllppggjhhmaaGreatDoor
