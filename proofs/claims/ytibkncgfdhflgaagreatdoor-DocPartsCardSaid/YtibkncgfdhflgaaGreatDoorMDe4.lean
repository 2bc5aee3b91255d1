/-
  doc's parser: an operation, a fragment.
-/
import Derived.Test.YtibkncgfdhflgaaGreatDoorMDw
import Derived.Deep.RegionLaw
namespace Go.Proofs.YtibkncgfdhflgaaGreatDoor
open Go.RowKit

theorem Lg.fin5 {c : Cx} {k : Nat} {w : World} {T : TypeId} {g : Nat} {b1 : Array Value} {s : Ms} {W : World} {z0 z1 z2 z3 z4 : Value} (h : Lg c k w T g #[z0, z1, z2, z3, z4] b1 s W) (c0 c1 c2 c3 c4 : Value) :
    Lg c k w T g #[c0, c1, c2, c3, c4] b1 s (((((W.setCell ⟨w.heap.size, 0, none⟩ c0).setCell ⟨w.heap.size, 1, none⟩ c1).setCell ⟨w.heap.size, 2, none⟩ c2).setCell ⟨w.heap.size, 3, none⟩ c3).setCell ⟨w.heap.size, 4, none⟩ c4) ∧ Kp w g W (((((W.setCell ⟨w.heap.size, 0, none⟩ c0).setCell ⟨w.heap.size, 1, none⟩ c1).setCell ⟨w.heap.size, 2, none⟩ c2).setCell ⟨w.heap.size, 3, none⟩ c3).setCell ⟨w.heap.size, 4, none⟩ c4) := by
  have U0 := h.finE 0 c0 (b0' := #[c0, z1, z2, z3, z4]) rfl
  have U1 := U0.1.finE 1 c1 (b0' := #[c0, c1, z2, z3, z4]) rfl
  have U2 := U1.1.finE 2 c2 (b0' := #[c0, c1, c2, z3, z4]) rfl
  have U3 := U2.1.finE 3 c3 (b0' := #[c0, c1, c2, c3, z4]) rfl
  have U4 := U3.1.finE 4 c4 (b0' := #[c0, c1, c2, c3, c4]) rfl
  exact ⟨U4.1, ((((U0.2).trans U1.2).trans U2.2).trans U3.2).trans U4.2⟩
theorem Lg.fin4 {c : Cx} {k : Nat} {w : World} {T : TypeId} {g : Nat} {b1 : Array Value} {s : Ms} {W : World} {z0 z1 z2 z3 : Value} (h : Lg c k w T g #[z0, z1, z2, z3] b1 s W) (c0 c1 c2 c3 : Value) :
    Lg c k w T g #[c0, c1, c2, c3] b1 s ((((W.setCell ⟨w.heap.size, 0, none⟩ c0).setCell ⟨w.heap.size, 1, none⟩ c1).setCell ⟨w.heap.size, 2, none⟩ c2).setCell ⟨w.heap.size, 3, none⟩ c3) ∧ Kp w g W ((((W.setCell ⟨w.heap.size, 0, none⟩ c0).setCell ⟨w.heap.size, 1, none⟩ c1).setCell ⟨w.heap.size, 2, none⟩ c2).setCell ⟨w.heap.size, 3, none⟩ c3) := by
  have U0 := h.finE 0 c0 (b0' := #[c0, z1, z2, z3]) rfl
  have U1 := U0.1.finE 1 c1 (b0' := #[c0, c1, z2, z3]) rfl
  have U2 := U1.1.finE 2 c2 (b0' := #[c0, c1, c2, z3]) rfl
  have U3 := U2.1.finE 3 c3 (b0' := #[c0, c1, c2, c3]) rfl
  exact ⟨U3.1, (((U0.2).trans U1.2).trans U2.2).trans U3.2⟩

set_option maxHeartbeats 1000000 in
set_option maxRecDepth 100000 in
theorem pFragName_any {c : Cx} {k : Nat} {s : Ms} (w : World) (h : Pv c k s w) : Calls Tryz.prog 86 #[.pointer (some ⟨c.R, 0, none⟩)] w fun e w' => e = .returned (.string ⟨(fnmM c.z s).1.toArray⟩) ∧ Pw c k (fnmM c.z s).2 w w' := by
  have HT := pWord_any onS w h
  have HM := Lib.hid (show fnmM c.z s = nmM c.z (if isWd onS (hdT s.l) then failM c.z 2 s else s) from rfl)
  have HH := Lib.hid h
  generalize fnmM c.z s = RES at *
  cases hi : isWd onS (hdT s.l) with
  | true =>
    rw [hi] at HT HM
    simp only [reduceIte] at HM
    clear hi h
    go_enter Tryz.func86, Tryz.ntmps86
    go_wp2_with fail
    refine HT.mono ?_
    rintro e w1 ⟨rfl, hb⟩
    have HF := pFail_any 2 w1 (HH.out.below hb HH.out.hN)
    have HB := Lib.hid hb
    clear HT hb
    go_wp2_with fail
    refine HF.mono ?_
    rintro e w2 ⟨rfl, p2⟩
    have HP := Lib.hid (((Pw.refl HH.out).below HB.out).trans p2)
    have HN := pNm_any w2 p2.1
    clear p2 HF
    go_wp2_with fail
    refine HN.mono ?_
    rintro e w3 ⟨rfl, p3⟩
    have HX := Lib.hid (HP.out.trans p3)
    clear p3 HN
    go_wp2_with fail
    go_ret
    rw [HM.out]
    exact ⟨rfl, HX.out⟩
  | false =>
    rw [hi] at HT HM
    simp only [reduceIte, Bool.false_eq_true] at HM
    clear hi h
    go_enter Tryz.func86, Tryz.ntmps86
    go_wp2_with fail
    refine HT.mono ?_
    rintro e w2 ⟨rfl, hb⟩
    have HP := Lib.hid ((Pw.refl HH.out).below hb)
    have HN := pNm_any w2 HP.out.1
    clear hb HT
    go_wp2_with fail
    refine HN.mono ?_
    rintro e w3 ⟨rfl, p3⟩
    have HX := Lib.hid (HP.out.trans p3)
    clear p3 HN
    go_wp2_with fail
    go_ret
    rw [HM.out]
    exact ⟨rfl, HX.out⟩
theorem fnmM_size {c : Cx} {k : Nat} {s : Ms} {w : World} (h : Pv c k s w) : (fnmM c.z s).1.length ≤ 1000000 := by
  unfold fnmM
  split
  · unfold nmM
    split
    · have h2 : (hdT (failM c.z 2 s).l).s.length ≤ 1000000 := by
        unfold failM
        split
        · exact Nat.zero_le _
        · exact hdT_size h
      exact h2
    · exact Nat.zero_le _
  · exact nmM_size h

set_option maxHeartbeats 8000000 in
set_option maxRecDepth 100000 in
theorem pFrag_any {c : Cx} {s : Ms} (w : World) (h : Pv c 0 s w) : Calls Tryz.prog 64 #[.pointer (some ⟨c.R, 0, none⟩)] w (RecAns FragE c 0 w (fraM c.z s)) := by
  have G0 := (Lb.new h 53 #[.string ⟨#[]⟩, .string ⟨#[]⟩, .slice none 0 0, .slice none 0 0]).made #[.string ⟨#[]⟩, .string ⟨#[]⟩, .slice none 0 0, .slice none 0 0]
  have hgs : (w.alloc (.cells #[.string ⟨#[]⟩, .string ⟨#[]⟩, .slice none 0 0, .slice none 0 0] 53 (0, 0))).heap.size = w.heap.size + 1 := by simp
  rw [hgs] at G0
  have HC1 := pFragName_any _ G0.b.p.1
  have HZ := Lib.hid (fnmM_size G0.b.p.1)
  have HM := Lib.hid (show fraM c.z s = (⟨(fnmM c.z s).1, (nmM c.z (wdM c.z onS (fnmM c.z s).2)).1, (dirM c.z (nmM c.z (wdM c.z onS (fnmM c.z s).2)).2).1, (setM c.z 12 (dirM c.z (nmM c.z (wdM c.z onS (fnmM c.z s).2)).2).2).1⟩, (setM c.z 12 (dirM c.z (nmM c.z (wdM c.z onS (fnmM c.z s).2)).2).2).2) from rfl)
  have HG0 := Lib.hid G0
  generalize fnmM c.z s = R1 at *
  generalize fraM c.z s = RES at *
  obtain ⟨nm, s1⟩ := R1
  dsimp only at HC1 HM HZ
  clear G0 h hgs
  go_enter Tryz.func64, Tryz.ntmps64
  go_wp2_with fail
  refine HC1.mono ?_
  rintro e w1 ⟨rfl, p1⟩
  have G1 := HG0.out.call p1
  have T1 := G1.1.set 0 (.string ⟨nm.toArray⟩)
  have HT1 := Lib.hid T1.1
  obtain ⟨b0, b1, b2, b3, bf, bl⟩ := blk4 G1.1.h1
  have HC2 := pMustWord_any onS _ T1.1.b.p.1
  generalize wdM c.z onS s1 = s2 at *
  clear p1 G1 HC1 HG0 T1
  go_wp2_with fail
  refine HC2.mono ?_
  rintro e w2 ⟨rfl, p2⟩
  have G2 := HT1.out.call p2
  have HG2 := Lib.hid G2.1
  have HC3 := pNm_any w2 G2.1.b.p.1
  have HZ2 := Lib.hid (nmM_size G2.1.b.p.1)
  generalize nmM c.z s2 = R1 at *
  obtain ⟨on_, s3⟩ := R1
  dsimp only at HC3 HM HZ2
  clear p2 G2 HC2 HT1 b0 b1 b2 b3 bf bl
  go_wp2_with fail
  refine HC3.mono ?_
  rintro e w3 ⟨rfl, p3⟩
  have G3 := HG2.out.call p3
  have T3 := G3.1.set 1 (.string ⟨on_.toArray⟩)
  have HT3 := Lib.hid T3.1
  obtain ⟨b0, b1, b2, b3, bf, bl⟩ := blk4 G3.1.h1
  have HC4 := pDirs_any _ T3.1.b.p.1
  clear p3 G3 HC3 HG2 T3
  go_wp2_with fail
  refine HC4.mono ?_
  rintro e w4 ⟨v, rfl, hR, p4⟩
  have G4 := HT3.out.call p4
  have hd := RowD.step (D' := Dg w (w.heap.size + 1) w4) (w' := w4) dirOk (dg_of HT3.out) (fun _ _ _ => rfl) hR
  generalize dirM c.z s3 = RD at *
  obtain ⟨ds, s4⟩ := RD
  dsimp only at HM hd G4 hR
  obtain ⟨va, vc, rfl⟩ := hR.shape
  have T4 := G4.1.set 2 (.slice va ds.length vc)
  have HC5 := pSet_any (c := c) 12 0 rfl s4 _ T4.1.b.p.1
  have HD4 := Lib.hid (T4.2.row dirOk hd)
  have HT4 := Lib.hid T4.1
  clear b0 b1 b2 b3 bf bl
  obtain ⟨b0, b1, b2, b3, bf, bl⟩ := blk4 G4.1.h1
  clear p4 G4 HC4 HT3 hR hd T4
  go_wp2_with fail
  refine HC5.mono ?_
  rintro e w5 ⟨v, rfl, hR, p5⟩
  have G5 := HT4.out.call p5
  have hd := RowD.step (D' := Dg w (w.heap.size + 1) w5) (w' := w5) (selOk 12) (dg_of HT4.out) (fun _ _ _ => rfl) hR
  have hd3 := G5.2.row dirOk HD4.out
  generalize setM c.z 12 s4 = RS at *
  obtain ⟨ss, s5⟩ := RS
  dsimp only at HM hd G5 hR
  obtain ⟨xa, xc, rfl⟩ := hR.shape
  have T5 := G5.1.set 3 (.slice xa ss.length xc)
  have U := T5.1.fin4 (.string ⟨nm.toArray⟩) (.string ⟨on_.toArray⟩) (.slice va ds.length vc) (.slice xa ss.length xc)
  have HK := Lib.hid (T5.2.trans U.2)
  have HRD := Lib.hid hd
  have HRD3 := Lib.hid hd3
  have HU := Lib.hid U.1
  clear b0 b1 b2 b3 bf bl
  obtain ⟨b0, b1, b2, b3, bf, bl⟩ := blk4 G5.1.h1
  obtain ⟨a0, a1, a2, a3, af, al⟩ := blk4 G5.1.b.h0
  obtain ⟨f0, f1, f2, f3, -, -⟩ := blk4 U.1.b.h0
  have HF := Lib.hid (And.intro f0 (And.intro f1 (And.intro f2 f3)))
  clear p5 G5 HC5 HT4 hR hd hd3 T5 U f0 f1 f2 f3 HD4
  go_wp2_with fail
  obtain ⟨f0, f1, f2, f3⟩ := HF.out
  refine bodyPost_ret (v := .agg #[.string ⟨nm.toArray⟩, .string ⟨on_.toArray⟩, .slice va ds.length vc, .slice xa ss.length xc]) (by simp [results, Tryz.results64, go_sem, f0, f1, f2, f3]) rfl ?_
  rw [HM.out]
  exact ⟨[.string ⟨nm.toArray⟩, .string ⟨on_.toArray⟩, .slice va ds.length vc, .slice xa ss.length xc], rfl, fragOk.step dg_fin (fun _ _ _ => rfl) ⟨⟨HZ.out, HZ2.out⟩, _, _, rfl, HK.out.row dirOk HRD3.out, HK.out.row (selOk 12) HRD.out⟩, HU.out.b.p⟩

theorem nnM_size {c : Cx} {k : Nat} {s : Ms} {w : World} (h : Pv c k s w) : (nnM c.z s).1.length ≤ 1000000 := by
  unfold nnM
  split
  · exact nmM_size h
  · exact Nat.zero_le _
theorem blk5b {W : World} {g : Nat} {T : TypeId} {c0 c1 c2 c3 c4 : Value} (h : W.heap[g]? = some (.cells #[c0, c1, c2, c3, c4] T (0, 0))) : W.cell? ⟨g, 0, none⟩ = some c0 ∧ W.cell? ⟨g, 1, none⟩ = some c1 ∧ W.cell? ⟨g, 2, none⟩ = some c2 ∧ W.cell? ⟨g, 3, none⟩ = some c3 ∧ W.cell? ⟨g, 4, none⟩ = some c4 ∧ (∀ j, W.frozen? ⟨g, j, none⟩ = false) ∧ g < W.heap.size := blk5 h

set_option maxHeartbeats 8000000 in
set_option maxRecDepth 100000 in
theorem pHead_any {c : Cx} {s : Ms} (w : World) (h : Pv c 0 s w) : Calls Tryz.prog 92 #[.pointer (some ⟨c.R, 0, none⟩)] w (RecAns OpE c 0 w (hedM c.z s)) := by
  have L0 := Lb.new h 37 #[.bool false, .string ⟨#[]⟩, .slice none 0 0, .slice none 0 0, .slice none 0 0]
  have HL0 := Lib.hid L0
  have HC1 := pTakeWord_any mutS _ L0.p.1
  have HM := Lib.hid (show hedM c.z s = (⟨(mqM c.z s).1, (nnM c.z (mqM c.z s).2).1, (varsM c.z (nnM c.z (mqM c.z s).2).2).1, (dirM c.z (varsM c.z (nnM c.z (mqM c.z s).2).2).2).1, []⟩, (dirM c.z (varsM c.z (nnM c.z (mqM c.z s).2).2).2).2) from rfl)
  have HO := Lib.hid (show mqM c.z s = if isWd mutS (hdT s.l) then (true, tlM s) else (false, wdM c.z queryS s) from rfl)
  generalize hedM c.z s = RES at *
  generalize mqM c.z s = RQ at *
  obtain ⟨mu, s1⟩ := RQ
  dsimp only at HM
  clear L0 h
  go_enter Tryz.func92, Tryz.ntmps92
  go_wp2_with fail
  refine HC1.mono ?_
  rintro e w1 ⟨rfl, p1⟩
  have G1 := (HL0.out.call p1).made #[.bool (isWd mutS (hdT s.l)), .string ⟨#[]⟩, .slice none 0 0, .slice none 0 0, .slice none 0 0]
  have hlt := HL0.out.sz
  have hlt1 := (HL0.out.call p1).sz
  have HG1 := Lib.hid G1
  have hbw : w1.heap.size ≠ w.heap.size := by omega
  clear p1 G1 HC1 HL0
  go_upto_if 9 with fail
  go_cut [] (fun wc => Lg c 0 w 37 w1.heap.size #[.bool false, .string ⟨#[]⟩, .slice none 0 0, .slice none 0 0, .slice none 0 0] #[.bool mu, .string ⟨#[]⟩, .slice none 0 0, .slice none 0 0, .slice none 0 0] s1 wc)
  case first =>
    cases hi : isWd mutS (hdT s.l) with
    | true =>
      rw [hi] at HO HG1
      simp only [reduceIte] at HO HG1
      have ho := HO.out
      injection ho with ho1 ho2
      subst ho1 ho2
      clear hi HO
      go_wp2_with fail
      go_meet
      case rel => exact HG1.out
    | false =>
      rw [hi] at HO HG1
      simp only [reduceIte, Bool.false_eq_true] at HO HG1
      have ho := HO.out
      injection ho with ho1 ho2
      subst ho1 ho2
      have HC2 := pMustWord_any queryS _ HG1.out.b.p.1
      clear hi HO
      go_wp2_with fail
      refine HC2.mono ?_
      rintro e w2 ⟨rfl, p2⟩
      have G2 := Lib.hid (HG1.out.call p2).1
      clear p2 HC2 HG1
      go_wp2_with fail
      go_meet
      case rel => exact G2.out
  case rest =>
    have G3 := hcut
    have HC2 := pNmOr_any _ G3.b.p.1
    have HZ := Lib.hid (nnM_size G3.b.p.1)
    have HG3 := Lib.hid G3
    generalize nnM c.z s1 = R1 at *
    obtain ⟨nm, s2⟩ := R1
    dsimp only at HC2 HM HZ
    clear G3 HG1 hcut HO
    go_wp2_with fail
    refine HC2.mono ?_
    rintro e w3 ⟨rfl, p3⟩
    have G4 := HG3.out.call p3
    have T4 := G4.1.set 1 (.string ⟨nm.toArray⟩)
    have HT4 := Lib.hid T4.1
    obtain ⟨b0, b1, b2, b3, b4, bf, bl⟩ := blk5 G4.1.h1
    have HC3 := sonVar_any [40] [41] (vdM c.z) _ T4.1.b.p.1 (fun s' W h' => pVar_any W h') (fun s' _ h2 => (vdM_eats c.z s').lt h2)
    have HVM := Lib.hid (show varsM c.z s2 = soM c.z [40] [41] (vdM c.z) s2 from rfl)
    rw [← HVM.out] at HC3
    clear p3 G4 HC2 HG3 T4 HVM
    go_wp2_with fail
    refine HC3.mono ?_
    rintro e w4 ⟨v, rfl, hR, p4⟩
    have G5 := HT4.out.call p4
    have hd := RowD.step (D' := Dg w w1.heap.size w4) (w' := w4) varOk (dg_of HT4.out) (fun _ _ _ => rfl) hR
    generalize varsM c.z s2 = RD at *
    obtain ⟨vs, s3⟩ := RD
    dsimp only at HM hd G5 hR
    obtain ⟨va, vc, rfl⟩ := hR.shape
    have T5 := G5.1.set 2 (.slice va vs.length vc)
    have HC4 := pDirs_any _ T5.1.b.p.1
    have HD5 := Lib.hid (T5.2.row varOk hd)
    have HT5 := Lib.hid T5.1
    clear b0 b1 b2 b3 b4 bf bl
    obtain ⟨b0, b1, b2, b3, b4, bf, bl⟩ := blk5 G5.1.h1
    clear p4 G5 HC3 HT4 hR hd T5
    go_wp2_with fail
    refine HC4.mono ?_
    rintro e w5 ⟨v, rfl, hR, p5⟩
    have G6 := HT5.out.call p5
    have hd := RowD.step (D' := Dg w w1.heap.size w5) (w' := w5) dirOk (dg_of HT5.out) (fun _ _ _ => rfl) hR
    have hd3 := G6.2.row varOk HD5.out
    generalize dirM c.z s3 = RS at *
    obtain ⟨ds, s5⟩ := RS
    dsimp only at HM hd G6 hR
    obtain ⟨xa, xc, rfl⟩ := hR.shape
    have T6 := G6.1.set 3 (.slice xa ds.length xc)
    have U := T6.1.fin5 (.bool mu) (.string ⟨nm.toArray⟩) (.slice va vs.length vc) (.slice xa ds.length xc) (.slice none 0 0)
    have HK := Lib.hid (T6.2.trans U.2)
    have HRD := Lib.hid hd
    have HRD3 := Lib.hid hd3
    have HU := Lib.hid U.1
    clear b0 b1 b2 b3 b4 bf bl
    obtain ⟨b0, b1, b2, b3, b4, bf, bl⟩ := blk5 G6.1.h1
    obtain ⟨a0, a1, a2, a3, a4, af, al⟩ := blk5 G6.1.b.h0
    obtain ⟨f0, f1, f2, f3, f4, -, -⟩ := blk5 U.1.b.h0
    have HF := Lib.hid (And.intro f0 (And.intro f1 (And.intro f2 (And.intro f3 f4))))
    clear p5 G6 HC4 HT5 hR hd hd3 T6 U f0 f1 f2 f3 f4 HD5
    go_wp2_with fail
    obtain ⟨f0, f1, f2, f3, f4⟩ := HF.out
    refine bodyPost_ret (v := .agg #[.bool mu, .string ⟨nm.toArray⟩, .slice va vs.length vc, .slice xa ds.length xc, .slice none 0 0]) (by simp [results, Tryz.results92, go_sem, f0, f1, f2, f3, f4]) rfl ?_
    rw [HM.out]
    exact ⟨[.bool mu, .string ⟨nm.toArray⟩, .slice va vs.length vc, .slice xa ds.length xc, .slice none 0 0], rfl, opOk.step dg_fin (fun _ _ _ => rfl) ⟨HZ.out, _, _, _, rfl, HK.out.row varOk HRD3.out, HK.out.row dirOk HRD.out, .nil⟩, HU.out.b.p⟩

end Go.Proofs.YtibkncgfdhflgaaGreatDoor

/-
  doc's parser: an operation whole.
-/
namespace Go.Proofs.YtibkncgfdhflgaaGreatDoor
open Go.RowKit

set_option maxHeartbeats 8000000 in
set_option maxRecDepth 100000 in
theorem pOper_any {c : Cx} {s : Ms} (w : World) (h : Pv c 0 s w) : Calls Tryz.prog 65 #[.pointer (some ⟨c.R, 0, none⟩)] w (RecAns OpE c 0 w (opeM c.z s)) := by
  have G0 := (Lb.new h 37 #[.bool false, .string ⟨#[]⟩, .slice none 0 0, .slice none 0 0, .slice none 0 0]).made #[.bool false, .string ⟨#[]⟩, .slice none 0 0, .slice none 0 0, .slice none 0 0]
  have hgs : (w.alloc (.cells #[.bool false, .string ⟨#[]⟩, .slice none 0 0, .slice none 0 0, .slice none 0 0] 37 (0, 0))).heap.size = w.heap.size + 1 := by simp
  rw [hgs] at G0
  have HC1 := pSign_any [123] _ G0.b.p.1
  have HM := Lib.hid (show opeM c.z s = (⟨(oheM c.z s).1.mut_, (oheM c.z s).1.nm, (oheM c.z s).1.vars, (oheM c.z s).1.dirs, (setM c.z 12 (oheM c.z s).2).1⟩, (setM c.z 12 (oheM c.z s).2).2) from rfl)
  have HO := Lib.hid (show oheM c.z s = if isSg [123] (hdT s.l) then (⟨false, [], [], [], []⟩, s) else hedM c.z s from rfl)
  have HG0 := Lib.hid G0
  generalize opeM c.z s = RES at *
  generalize oheM c.z s = RQ at *
  obtain ⟨⟨mu, nm, vs, ds, ss0⟩, s1⟩ := RQ
  dsimp only at HM
  clear G0 h hgs
  go_enter Tryz.func65, Tryz.ntmps65
  go_wp2_with fail
  refine HC1.mono ?_
  rintro e w1 ⟨rfl, hb1⟩
  have G1 := HG0.out.below hb1
  have HG1 := Lib.hid G1.1
  obtain ⟨b0, b1, b2, b3, b4, bf, bl⟩ := blk5 G1.1.h1
  clear hb1 G1 HC1 HG0
  go_upto_if 6 with fail
  go_cut [] (fun wc => ∃ va vc xa xc sa sl sc, Lg c 0 w 37 (w.heap.size + 1) #[.bool false, .string ⟨#[]⟩, .slice none 0 0, .slice none 0 0, .slice none 0 0] #[.bool mu, .string ⟨nm.toArray⟩, .slice va vs.length vc, .slice xa ds.length xc, .slice sa sl sc] s1 wc ∧ nm.length ≤ 1000000 ∧ RowD VarE 7 wc (Dg w (w.heap.size + 1) wc) vs (.slice va vs.length vc) ∧ RowD DirE 2 wc (Dg w (w.heap.size + 1) wc) ds (.slice xa ds.length xc))
  case first =>
    cases hi : isSg [123] (hdT s.l) with
    | true =>
      rw [hi] at HO
      simp only [reduceIte] at HO
      have ho := HO.out
      injection ho with ho1 ho2
      injection ho1 with q1 q2 q3 q4 q5
      subst q1 q2 q3 q4 q5 ho2
      clear hi HO
      go_wp2_with fail
      go_meet
      case rel => exact ⟨none, 0, none, 0, none, 0, 0, HG1.out, by decide, .nil, .nil⟩
    | false =>
      rw [hi] at HO
      simp only [reduceIte, Bool.false_eq_true] at HO
      have HC2 := pHead_any _ HG1.out.b.p.1
      rw [← HO.out] at HC2
      clear hi HO
      go_wp2_with fail
      refine HC2.mono ?_
      rintro e w2 ⟨es, hee, hE, p2⟩
      dsimp only at hE p2
      obtain ⟨hz, vv, vd, vx, rfl, hv1, hd1, hs1⟩ := hE
      have G2 := HG1.out.call p2
      have hv2 := RowD.step (D' := Dg w (w.heap.size + 1) w2) (w' := w2) varOk (dg_of HG1.out) (fun _ _ _ => rfl) hv1
      have hd2 := RowD.step (D' := Dg w (w.heap.size + 1) w2) (w' := w2) dirOk (dg_of HG1.out) (fun _ _ _ => rfl) hd1
      obtain ⟨va, vc, rfl⟩ := hv1.shape
      obtain ⟨xa, xc, rfl⟩ := hd1.shape
      obtain ⟨sa, sc, rfl⟩ := hs1.shape
      dsimp only at hee hz hv2 hd2 hs1
      have hee : e = .returned (.agg #[.bool mu, .string ⟨nm.toArray⟩, .slice va vs.length vc, .slice xa ds.length xc, .slice sa ss0.length sc]) := hee
      subst hee
      have T0 := G2.1.set 0 (.bool mu)
      have T1 := T0.1.set 1 (.string ⟨nm.toArray⟩)
      have T2 := T1.1.set 2 (.slice va vs.length vc)
      have T3 := T2.1.set 3 (.slice xa ds.length xc)
      have T4 := T3.1.set 4 (.slice sa ss0.length sc)
      have hk := (((T0.2.trans T1.2).trans T2.2).trans T3.2).trans T4.2
      have HX := Lib.hid (show _ ∧ _ ∧ _ ∧ _ from ⟨T4.1, hz, hk.row varOk hv2, hk.row dirOk hd2⟩)
      clear b0 b1 b2 b3 b4 bf bl
      obtain ⟨b0, b1, b2, b3, b4, bf, bl⟩ := blk5 G2.1.h1
      clear p2 G2 HC2 HG1 T0 T1 T2 T3 T4 hk hv1 hv2 hd1 hd2 hs1
      go_wp2_with fail
      go_meet
      case rel => exact ⟨va, vc, xa, xc, sa, ss0.length, sc, HX.out⟩
  case rest =>
    obtain ⟨va, vc, xa, xc, sa, sl, sc, G3, hz, hV, hD⟩ := hcut
    have HZ := Lib.hid hz
    have HV := Lib.hid hV
    have HD := Lib.hid hD
    have HG3 := Lib.hid G3
    have HC2 := pSet_any (c := c) 12 0 rfl s1 _ G3.b.p.1
    clear G3 hz hV hD HG1 HO b0 b1 b2 b3 b4 bf bl
    go_wp2_with fail
    refine HC2.mono ?_
    rintro e w5 ⟨v, rfl, hR, p5⟩
    have G5 := HG3.out.call p5
    have hd := RowD.step (D' := Dg w (w.heap.size + 1) w5) (w' := w5) (selOk 12) (dg_of HG3.out) (fun _ _ _ => rfl) hR
    have hv5 := G5.2.row varOk HV.out
    have hd5 := G5.2.row dirOk HD.out
    generalize setM c.z 12 s1 = RS at *
    obtain ⟨ss, s5⟩ := RS
    dsimp only at HM hd G5 hR
    obtain ⟨ya, yc, rfl⟩ := hR.shape
    have T5 := G5.1.set 4 (.slice ya ss.length yc)
    have U := T5.1.fin5 (.bool mu) (.string ⟨nm.toArray⟩) (.slice va vs.length vc) (.slice xa ds.length xc) (.slice ya ss.length yc)
    have hk := T5.2.trans U.2
    have HRS := Lib.hid (hk.row (selOk 12) hd)
    have HRV := Lib.hid (hk.row varOk hv5)
    have HRD := Lib.hid (hk.row dirOk hd5)
    have HU := Lib.hid U.1
    obtain ⟨b0, b1, b2, b3, b4, bf, bl⟩ := blk5 G5.1.h1
    obtain ⟨a0, a1, a2, a3, a4, af, al⟩ := blk5 G5.1.b.h0
    obtain ⟨f0, f1, f2, f3, f4, -, -⟩ := blk5 U.1.b.h0
    have HF := Lib.hid (And.intro f0 (And.intro f1 (And.intro f2 (And.intro f3 f4))))
    clear p5 G5 HC2 HG3 hR hd hv5 hd5 T5 U hk f0 f1 f2 f3 f4 HV HD
    go_wp2_with fail
    obtain ⟨f0, f1, f2, f3, f4⟩ := HF.out
    refine bodyPost_ret (v := .agg #[.bool mu, .string ⟨nm.toArray⟩, .slice va vs.length vc, .slice xa ds.length xc, .slice ya ss.length yc]) (by simp [results, Tryz.results65, go_sem, f0, f1, f2, f3, f4]) rfl ?_
    rw [HM.out]
    exact ⟨[.bool mu, .string ⟨nm.toArray⟩, .slice va vs.length vc, .slice xa ds.length xc, .slice ya ss.length yc], rfl, opOk.step dg_fin (fun _ _ _ => rfl) ⟨HZ.out, _, _, _, rfl, HRV.out, HRD.out, HRS.out⟩, HU.out.b.p⟩

end Go.Proofs.YtibkncgfdhflgaaGreatDoor

/-
  doc's parser: the document as it grows.
-/
namespace Go.Proofs.YtibkncgfdhflgaaGreatDoor
open Go.RowKit

/-- Records that do not reach into the block of v either. -/
def Ex {α : Type} (E : ElemR α) (v : Value) : ElemR α := fun w D x cs => E w (fun b => D b ∧ v.ownBlock ≠ some b) x cs
theorem exOk {α : Type} {E : ElemR α} {sz : Nat} (h : ElemOk E sz) (v : Value) : ElemOk (Ex E v) sz :=
  ⟨fun hD hk hE => h.step (fun b hd => ⟨hD b hd.1, hd.2⟩) (fun b o hd => hk b o hd.1) hE, fun hE => h.len hE, fun hE => h.one hE⟩
theorem OwnR.elem {α : Type} {E E' : ElemR α} {B : Nat} {T : TypeId} {sz : Nat} {xs : List α} {cs : List Value} {v : Value} {W : World} (h : OwnR E B T sz xs cs v W) (hE : ∀ x es, E W (OD B W v) x es → E' W (OD B W v) x es) : OwnR E' B T sz xs cs v W :=
  ⟨h.own, fun i x hx => by
    obtain ⟨es, hl, hc, hR⟩ := h.el i x hx
    exact ⟨es, hl, hc, hE x es hR⟩⟩

/-- The box of the document in block w.heap.size, the document itself in the next one. -/
structure Ds (c : Cx) (w : World) (d : DocT) (s : Ms) (vo vf : Value) (co cf : List Value) (W : World) : Prop where
  g : Lg c 0 w 25 (w.heap.size + 1) #[.slice none 0 0, .slice none 0 0] #[vo, vf] s W
  o : OwnR (Ex OpE vf) (w.heap.size + 2) 37 5 d.ops co vo W
  f : OwnR (Ex FragE vo) (w.heap.size + 2) 53 4 d.frags cf vf W
  ne : ∀ b, vo.ownBlock = some b → vf.ownBlock ≠ some b

theorem Ds.call {c : Cx} {w : World} {d : DocT} {s s' : Ms} {vo vf : Value} {co cf : List Value} {W W' : World} (h : Ds c w d s vo vf co cf W) (hp : Pw c 0 s' W W') : Ds c w d s' vo vf co cf W' := by
  have hR := h.g.b.p.1.hR
  have hN := h.g.b.hN
  have hb : ∀ b, w.heap.size + 2 ≤ b → b < W.heap.size → W'.heap[b]? = W.heap[b]? := fun b hb hl => hp.2.block b hl (by omega)
  exact ⟨(h.g.call hp).1, h.o.keep (exOk opOk vf) hb hp.2.size, h.f.keep (exOk fragOk vo) hb hp.2.size, h.ne⟩
theorem Ds.below {c : Cx} {w : World} {d : DocT} {s : Ms} {vo vf : Value} {co cf : List Value} {W W' : World} (h : Ds c w d s vo vf co cf W) (hb : Below W.heap.size W W') : Ds c w d s vo vf co cf W' := h.call (.of h.g.b.p.1 hb)

theorem grow_lg {c : Cx} {w W w8 : World} {s : Ms} {T : TypeId} {b0 b1 : Array Value} {v : Value} (h : Lg c 0 w T (w.heap.size + 1) b0 b1 s W) (hv : ∀ g, v.ownBlock = some g → w.heap.size + 2 ≤ g) (hg : W.grownBy w8 v.ownBlock) : Lg c 0 w T (w.heap.size + 1) b0 b1 s w8 := by
  have hlt := h.lt
  have hz := hg.size
  have hb : Below (w.heap.size + 2) W w8 := ⟨hg.os, hg.tape, hg.output, hg.size, fun b hb => hg.block b (by omega) (fun e => by
    have := hv b (by first | exact e | exact e.symm)
    omega)⟩
  exact ⟨⟨⟨h.b.p.1.below (hb.mono (Nat.le_add_right _ 2)) h.b.hN, h.b.p.2.trans (.of (hb.mono (Nat.le_add_right _ 2)))⟩, (hb.block _ (by omega)).trans h.b.h0, h.b.hN⟩, (hb.block _ (by omega)).trans h.h1, h.hg⟩
/-- The other row, where one has grown. -/
theorem grow_other {α : Type} {E : ElemR α} {sz : Nat} (hE : ElemOk E sz) {B : Nat} {T : TypeId} {xs : List α} {cs : List Value} {v u u' : Value} {W w8 : World} (h : OwnR (Ex E u) B T sz xs cs v W) (hne : ∀ b, v.ownBlock = some b → u.ownBlock ≠ some b) (hg : W.grownBy w8 u.ownBlock) (hlie : u'.ownBlock = u.ownBlock ∨ u'.ownBlock = some W.heap.size) :
    OwnR (Ex E u') B T sz xs cs v w8 := by
  have hz := hg.size
  have hh : ∀ b, b < W.heap.size → u.ownBlock ≠ some b → w8.heap[b]? = W.heap[b]? := fun b hb hn => hg.block b hb (by first | exact hn | exact fun e => hn e.symm)
  refine ⟨ownsRow_block h.own (fun g e => ?_), fun i x hx => ?_⟩
  · have := h.own.lt g e
    exact hh g this.2 (hne g e)
  · obtain ⟨es, hl, hc, hR⟩ := h.el i x hx
    refine ⟨es, hl, hc, hE.step (fun b hd => ⟨⟨hd.1.1, by have := hd.1.2.1; omega, hd.1.2.2⟩, ?_⟩) (fun b o hd => World.cell?_of_block (a := ⟨b, o, none⟩) (hh b hd.1.2.1 hd.2)) hR⟩
    rcases hlie with e | e
    · rw [e]; exact hd.2
    · rw [e]; intro e2; have := Option.some.inj e2; have := hd.1.2.1; omega

theorem Ds.fragDone {c : Cx} {w W w8 : World} {d : DocT} {s : Ms} {vo vf v' : Value} {co cf es : List Value} {x : FragT} (h : Ds c w d s vo vf co cf W) (hx : Ex FragE vo W (OD (w.heap.size + 2) W vf) x es) (hown : w8.ownsRow (w.heap.size + 2) 53 4 v' (d.frags.length + 1) (cf ++ es)) (hg : W.grownBy w8 vf.ownBlock)
    (hlie : v'.ownBlock = vf.ownBlock ∨ v'.ownBlock = some W.heap.size) : Ds c w ⟨d.ops, d.frags ++ [x]⟩ s vo v' co (cf ++ es) (w8.setCell ⟨w.heap.size + 1, 1, none⟩ v') := by
  have G := (grow_lg h.g (fun g e => (h.f.own.lt g e).1) hg).set 1 v'
  have hk : ∀ b, w.heap.size + 2 ≤ b → b < w8.heap.size → (w8.setCell ⟨w.heap.size + 1, 1, none⟩ v').heap[b]? = w8.heap[b]? := fun b hb _ => Below.heap_setCell _ _ _ _ (by show b ≠ w.heap.size + 1; omega)
  have hs : w8.heap.size ≤ (w8.setCell ⟨w.heap.size + 1, 1, none⟩ v').heap.size := by simp [World.setCell]
  refine ⟨G.1, (grow_other opOk h.o h.ne hg hlie).keep (exOk opOk v') hk hs, (h.f.snoc (exOk fragOk vo) hx hown hg hlie).keep (exOk fragOk vo) hk hs, fun b e => ?_⟩
  rcases hlie with e1 | e1
  · rw [e1]; exact h.ne b e
  · rw [e1]; intro e2; have := Option.some.inj e2; have := (h.o.own.lt b e).2; omega
theorem Ds.opDone {c : Cx} {w W w8 : World} {d : DocT} {s : Ms} {vo vf v' : Value} {co cf es : List Value} {x : OpT} (h : Ds c w d s vo vf co cf W) (hx : Ex OpE vf W (OD (w.heap.size + 2) W vo) x es) (hown : w8.ownsRow (w.heap.size + 2) 37 5 v' (d.ops.length + 1) (co ++ es)) (hg : W.grownBy w8 vo.ownBlock)
    (hlie : v'.ownBlock = vo.ownBlock ∨ v'.ownBlock = some W.heap.size) : Ds c w ⟨d.ops ++ [x], d.frags⟩ s v' vf (co ++ es) cf (w8.setCell ⟨w.heap.size + 1, 0, none⟩ v') := by
  have G := (grow_lg h.g (fun g e => (h.o.own.lt g e).1) hg).set 0 v'
  have hk : ∀ b, w.heap.size + 2 ≤ b → b < w8.heap.size → (w8.setCell ⟨w.heap.size + 1, 0, none⟩ v').heap[b]? = w8.heap[b]? := fun b hb _ => Below.heap_setCell _ _ _ _ (by show b ≠ w.heap.size + 1; omega)
  have hs : w8.heap.size ≤ (w8.setCell ⟨w.heap.size + 1, 0, none⟩ v').heap.size := by simp [World.setCell]
  have hne : ∀ b, vf.ownBlock = some b → vo.ownBlock ≠ some b := fun b e e2 => h.ne b e2 e
  refine ⟨G.1, (h.o.snoc (exOk opOk vf) hx hown hg hlie).keep (exOk opOk vf) hk hs, (grow_other fragOk h.f hne hg hlie).keep (exOk fragOk v') hk hs, fun b e e2 => ?_⟩
  rcases hlie with e1 | e1
  · exact h.ne b (by rw [← e1]; exact e) e2
  · rw [e1] at e; have := Option.some.inj e; have := (h.f.own.lt b e2).2; omega

/-- A part has been read out of new blocks, and its cells laid once more. -/
theorem Ds.newPart {c : Cx} {w W w3 : World} {d : DocT} {s s3 : Ms} {vo vf : Value} {co cf : List Value} (h : Ds c w d s vo vf co cf W) (hp : Pw c 0 s3 W w3) (o : Obj) :
    Ds c w d s3 vo vf co cf (w3.alloc o) ∧ (w3.alloc o).heap.size = w3.heap.size + 1 ∧ w.heap.size + 2 ≤ (w3.alloc o).heap.size ∧
    ∀ b, (W.heap.size ≤ b ∧ b < w3.heap.size) → (OD (w.heap.size + 2) (w3.alloc o) vo b ∧ vf.ownBlock ≠ some b) ∧ (OD (w.heap.size + 2) (w3.alloc o) vf b ∧ vo.ownBlock ≠ some b) := by
  have hz : (w3.alloc o).heap.size = w3.heap.size + 1 := by simp
  have hlt := h.g.lt
  have hs := hp.2.size
  refine ⟨(h.call hp).below ((Below.refl _ _).alloc (Nat.le_refl _) _), hz, by omega, fun b hd => ?_⟩
  have n1 : vo.ownBlock ≠ some b := fun e => by have := (h.o.own.lt b e).2; omega
  have n2 : vf.ownBlock ≠ some b := fun e => by have := (h.f.own.lt b e).2; omega
  exact ⟨⟨⟨by omega, by omega, n1⟩, n2⟩, ⟨⟨by omega, by omega, n2⟩, n1⟩⟩

end Go.Proofs.YtibkncgfdhflgaaGreatDoor

/-
  doc's parser: a definition.
-/
namespace Go.Proofs.YtibkncgfdhflgaaGreatDoor
open Go.RowKit

theorem infoOp : (Tryz.prog.info? 37).map (fun i => (i.zero, i.size, i.bytes)) = some (some (.agg #[.bool false, .string ⟨#[]⟩, .slice none 0 0, .slice none 0 0, .slice none 0 0]), 5, 96) := by kernel_rfl
theorem infoFrag : (Tryz.prog.info? 53).map (fun i => (i.zero, i.size, i.bytes)) = some (some (.agg #[.string ⟨#[]⟩, .string ⟨#[]⟩, .slice none 0 0, .slice none 0 0]), 4, 80) := by kernel_rfl

set_option maxHeartbeats 8000000 in
set_option maxRecDepth 100000 in
theorem pDef_any {c : Cx} {w : World} {d : DocT} {s : Ms} {vo vf : Value} {co cf : List Value} (W : World) (h : Ds c w d s vo vf co cf W) (hn1 : d.ops.length ≤ 700) (hn2 : d.frags.length ≤ 700) :
    Calls Tryz.prog 43 #[.pointer (some ⟨c.R, 0, none⟩), .pointer (some ⟨w.heap.size + 1, 0, none⟩)] W fun e W' => e = .returned (.tuple #[]) ∧ ∃ vo' vf' co' cf', Ds c w (defM c.z d s).1 (defM c.z d s).2 vo' vf' co' cf' W' := by
  obtain ⟨i2, hi2, hz20, hz21, hz22⟩ := info_parts infoFrag
  obtain ⟨i3, hi3, hz30, hz31, hz32⟩ := info_parts infoOp
  obtain ⟨aO, cO, rfl, hcO, -⟩ := fresh_row h.o.own
  obtain ⟨aF, cF, rfl, hcF, -⟩ := fresh_row h.f.own
  have HT := pTakeWord_any fragS W h.g.b.p.1
  have HM := Lib.hid (show defM c.z d s = if isWd fragS (hdT s.l) then (⟨d.ops, d.frags ++ [(fraM c.z (tlM s)).1]⟩, (fraM c.z (tlM s)).2) else (⟨d.ops ++ [(opeM c.z s).1], d.frags⟩, (opeM c.z s).2) from rfl)
  generalize defM c.z d s = RES at *
  have HH := Lib.hid h
  clear h
  cases hi : isWd fragS (hdT s.l) with
  | true =>
    rw [hi] at HT HM
    simp only [reduceIte] at HT HM
    clear hi
    go_enter Tryz.func43, Tryz.ntmps43
    go_wp2_with fail
    refine HT.mono ?_
    rintro e w1 ⟨rfl, p1⟩
    have D1 := HH.out.call p1
    have HC := pFrag_any w1.drew p1.1.drew
    generalize fraM c.z (tlM s) = RQ at *
    obtain ⟨x, s5⟩ := RQ
    dsimp only at HM
    have D1d := D1.below ((Below.refl _ w1).drew)
    have HD1 := Lib.hid D1d
    obtain ⟨k0, k1, kf, kl⟩ := blk2 D1.g.h1
    have HOWN := Lib.hid D1.f.own
    clear p1 D1 D1d HT
    go_wp2_with fail
    go_upto_region 1 with fail
    go_region_law (first
      | (refine step_append_lies _ rfl (.tmp 10) (.tmp 13) 23 rfl (w.heap.size + 2) 53 i2 (.agg #[.string ⟨#[]⟩, .string ⟨#[]⟩, .slice none 0 0, .slice none 0 0]) 4 80 Tryz.underlying23 hi2 hz20 hz21 hz22 rfl (by decide) (.slice aF d.frags.length cF) d.frags.length cf (by simp [Act.eval]) HN.out.1.f.own ⟨w3.heap.size, 0, none⟩ 1 1 [.string ⟨x.nm.toArray⟩, .string ⟨x.on_.toArray⟩, .slice xa x.dirs.length xc, .slice sa x.sels.length sc] (by simp [Act.eval]) rfl HPR.out HONE.out (by decide) (by unfold maxLen; omega) (by omega) HN.out.2.2.1 (w3.heap.size + 1) HN.out.2.1 ?_; intro g8 cap8 w8 hown8 hg8 hlie8 hl8; have G8 := grow_lg HN.out.1.g (fun g e => (HN.out.1.f.own.lt g e).1) hg8; obtain ⟨m0, m1, mf, ml⟩ := blk2 G8.h1; clear G8)
      | (go_simp; (go_at_call 64); (with_reducible refine HC.mono ?_); rintro e w3 ⟨es, hee, hE, hp3⟩; dsimp only at hE hp3; obtain ⟨hz1, vd, vs, rfl, hd1, hs1⟩ := hE; obtain ⟨xa, xc, rfl⟩ := hd1.shape; obtain ⟨sa, sc, rfl⟩ := hs1.shape; have hee : e = .returned (.agg #[.string ⟨x.nm.toArray⟩, .string ⟨x.on_.toArray⟩, .slice xa x.dirs.length xc, .slice sa x.sels.length sc]) := hee; subst hee; have hE' : FragE w3 (fun b => w1.drew.heap.size ≤ b ∧ b < w3.heap.size) x [.string ⟨x.nm.toArray⟩, .string ⟨x.on_.toArray⟩, .slice xa x.dirs.length xc, .slice sa x.sels.length sc] := ⟨hz1, _, _, rfl, hd1, hs1⟩; have HN := Lib.hid (HD1.out.newPart hp3 (.cells #[.string ⟨x.nm.toArray⟩, .string ⟨x.on_.toArray⟩, .slice xa x.dirs.length xc, .slice sa x.sels.length sc] 53 (0, 0))); have HONE := Lib.hid (fragOk.one hE'); have HPR := Lib.hid (rec_new w3 4 #[.string ⟨x.nm.toArray⟩, .string ⟨x.on_.toArray⟩, .slice xa x.dirs.length xc, .slice sa x.sels.length sc] 53); have HE3 := Lib.hid (show Ex FragE (.slice aO d.ops.length cO) (w3.alloc (.cells #[.string ⟨x.nm.toArray⟩, .string ⟨x.on_.toArray⟩, .slice xa x.dirs.length xc, .slice sa x.sels.length sc] 53 (0, 0))) (OD (w.heap.size + 2) (w3.alloc (.cells #[.string ⟨x.nm.toArray⟩, .string ⟨x.on_.toArray⟩, .slice xa x.dirs.length xc, .slice sa x.sels.length sc] 53 (0, 0))) (.slice aF d.frags.length cF)) x [.string ⟨x.nm.toArray⟩, .string ⟨x.on_.toArray⟩, .slice xa x.dirs.length xc, .slice sa x.sels.length sc] from fragOk.step (fun b hd => (HN.out.2.2.2 b hd).2) (fun b o hd => World.cell?_of_block (a := ⟨b, o, none⟩) (Below.heap_alloc _ _ _ hd.2)) hE'); have D3 := HD1.out.call hp3; obtain ⟨n0, n1, nf, nl⟩ := blk2 D3.g.h1; clear D3 hE' hp3 hd1 hs1))
    all_goals
      have HX := Lib.hid (HN.out.1.fragDone HE3.out hown8 hg8 (by
        rcases hlie8 with ea | ea
        · exact .inl ea.symm
        · exact .inr (by rw [HN.out.2.1, ea]; rfl)))
      clear HN HONE HPR HE3 hown8 hg8 hlie8 HD1
      go_wp2_with fail
      refine bodyPost_ret (v := .tuple #[]) (results_none rfl _ _ _) rfl ?_
      rw [HM.out]
      exact ⟨rfl, _, _, _, _, HX.out⟩
  | false =>
    rw [hi] at HT HM
    simp only [reduceIte, Bool.false_eq_true] at HT HM
    clear hi
    go_enter Tryz.func43, Tryz.ntmps43
    go_wp2_with fail
    refine HT.mono ?_
    rintro e w1 ⟨rfl, p1⟩
    have D1 := HH.out.call p1
    have HC := pOper_any w1.drew p1.1.drew
    generalize opeM c.z s = RQ at *
    obtain ⟨x, s5⟩ := RQ
    dsimp only at HM
    have D1d := D1.below ((Below.refl _ w1).drew)
    have HD1 := Lib.hid D1d
    obtain ⟨k0, k1, kf, kl⟩ := blk2 D1.g.h1
    have HOWN := Lib.hid D1.o.own
    clear p1 D1 D1d HT
    go_wp2_with fail
    go_upto_region 2 with fail
    go_region_law (first
      | (refine step_append_lies _ rfl (.tmp 21) (.tmp 24) 22 rfl (w.heap.size + 2) 37 i3 (.agg #[.bool false, .string ⟨#[]⟩, .slice none 0 0, .slice none 0 0, .slice none 0 0]) 5 96 Tryz.underlying22 hi3 hz30 hz31 hz32 rfl (by decide) (.slice aO d.ops.length cO) d.ops.length co (by simp [Act.eval]) HN.out.1.o.own ⟨w3.heap.size, 0, none⟩ 1 1 [.bool x.mut_, .string ⟨x.nm.toArray⟩, .slice ya x.vars.length yc, .slice xa x.dirs.length xc, .slice sa x.sels.length sc] (by simp [Act.eval]) rfl HPR.out HONE.out (by decide) (by unfold maxLen; omega) (by omega) HN.out.2.2.1 (w3.heap.size + 1) HN.out.2.1 ?_; intro g8 cap8 w8 hown8 hg8 hlie8 hl8; have G8 := grow_lg HN.out.1.g (fun g e => (HN.out.1.o.own.lt g e).1) hg8; obtain ⟨m0, m1, mf, ml⟩ := blk2 G8.h1; clear G8)
      | (go_simp; (go_at_call 65); (with_reducible refine HC.mono ?_); rintro e w3 ⟨es, hee, hE, hp3⟩; dsimp only at hE hp3; obtain ⟨hz1, vv, vd, vs, rfl, hv1, hd1, hs1⟩ := hE; obtain ⟨ya, yc, rfl⟩ := hv1.shape; obtain ⟨xa, xc, rfl⟩ := hd1.shape; obtain ⟨sa, sc, rfl⟩ := hs1.shape; have hee : e = .returned (.agg #[.bool x.mut_, .string ⟨x.nm.toArray⟩, .slice ya x.vars.length yc, .slice xa x.dirs.length xc, .slice sa x.sels.length sc]) := hee; subst hee; have hE' : OpE w3 (fun b => w1.drew.heap.size ≤ b ∧ b < w3.heap.size) x [.bool x.mut_, .string ⟨x.nm.toArray⟩, .slice ya x.vars.length yc, .slice xa x.dirs.length xc, .slice sa x.sels.length sc] := ⟨hz1, _, _, _, rfl, hv1, hd1, hs1⟩; have HN := Lib.hid (HD1.out.newPart hp3 (.cells #[.bool x.mut_, .string ⟨x.nm.toArray⟩, .slice ya x.vars.length yc, .slice xa x.dirs.length xc, .slice sa x.sels.length sc] 37 (0, 0))); have HONE := Lib.hid (opOk.one hE'); have HPR := Lib.hid (rec_new w3 5 #[.bool x.mut_, .string ⟨x.nm.toArray⟩, .slice ya x.vars.length yc, .slice xa x.dirs.length xc, .slice sa x.sels.length sc] 37); have HE3 := Lib.hid (show Ex OpE (.slice aF d.frags.length cF) (w3.alloc (.cells #[.bool x.mut_, .string ⟨x.nm.toArray⟩, .slice ya x.vars.length yc, .slice xa x.dirs.length xc, .slice sa x.sels.length sc] 37 (0, 0))) (OD (w.heap.size + 2) (w3.alloc (.cells #[.bool x.mut_, .string ⟨x.nm.toArray⟩, .slice ya x.vars.length yc, .slice xa x.dirs.length xc, .slice sa x.sels.length sc] 37 (0, 0))) (.slice aO d.ops.length cO)) x [.bool x.mut_, .string ⟨x.nm.toArray⟩, .slice ya x.vars.length yc, .slice xa x.dirs.length xc, .slice sa x.sels.length sc] from opOk.step (fun b hd => (HN.out.2.2.2 b hd).1) (fun b o hd => World.cell?_of_block (a := ⟨b, o, none⟩) (Below.heap_alloc _ _ _ hd.2)) hE'); have D3 := HD1.out.call hp3; obtain ⟨n0, n1, nf, nl⟩ := blk2 D3.g.h1; clear D3 hE' hp3 hd1 hs1 hv1))
    all_goals
      have HX := Lib.hid (HN.out.1.opDone HE3.out hown8 hg8 (by
        rcases hlie8 with ea | ea
        · exact .inl ea.symm
        · exact .inr (by rw [HN.out.2.1, ea]; rfl)))
      clear HN HONE HPR HE3 hown8 hg8 hlie8 HD1
      go_wp2_with fail
      go_end0
      rw [HM.out]
      exact ⟨rfl, _, _, _, _, HX.out⟩

end Go.Proofs.YtibkncgfdhflgaaGreatDoor

/-
  doc's parser: the document; Parse.
-/
namespace Go.Proofs.YtibkncgfdhflgaaGreatDoor
open Go.RowKit

theorem mqM_eats (z : Nat) (s : Ms) : Eats s (mqM z s).2 := by
  unfold mqM
  split
  · rename_i h; exact tl_eats (wdT_k h)
  · exact wdM_eats z _ s
theorem nnM_fwd (z : Nat) (s : Ms) : Fwd s (nnM z s).2 := by
  unfold nnM
  split
  · exact (nmM_eats z s).fwd
  · exact .refl s
theorem hedM_eats (z : Nat) (s : Ms) : Eats s (hedM z s).2 := (mqM_eats z s).then (((nnM_fwd z _).trans (soM_fwd z _ _ (fun s => (vdM_eats z s).fwd) _)).trans (dirM_fwd z _))
theorem oheM_fwd (z : Nat) (s : Ms) : Fwd s (oheM z s).2 := by
  unfold oheM
  split
  · exact .refl s
  · exact (hedM_eats z s).fwd
theorem opeM_eats (z : Nat) (s : Ms) : Eats s (opeM z s).2 := (oheM_fwd z s).then (setM_eats z 12 _)
theorem fraM_eats (z : Nat) (s : Ms) : Eats s (fraM z s).2 := by
  have h2 : Fwd s (fnmM z s).2 := by
    unfold fnmM
    split
    · exact (fail_eats z (by decide) s).fwd.trans (nmM_eats z _).fwd
    · exact (nmM_eats z s).fwd
  exact (((h2.trans (wdM_eats z onS _).fwd).trans (nmM_eats z _).fwd).trans (dirM_fwd z _)).then (setM_eats z 12 _)
theorem defM_eats (z : Nat) (d : DocT) (s : Ms) : Eats s (defM z d s).2 := by
  unfold defM
  split
  · exact (Fwd.then ⟨tl_le s, id⟩ (fraM_eats z (tlM s)))
  · exact opeM_eats z s
theorem defM_len (z : Nat) (d : DocT) (s : Ms) : (defM z d s).1.ops.length + (defM z d s).1.frags.length = d.ops.length + d.frags.length + 1 := by
  unfold defM
  split
  · show d.ops.length + (d.frags ++ [_]).length = _
    rw [List.length_append, List.length_singleton]; omega
  · show (d.ops ++ [_]).length + d.frags.length = _
    rw [List.length_append, List.length_singleton]; omega

theorem RowD.elem {α : Type} {E E' : ElemR α} {sz : Nat} {w : World} {D : Nat → Prop} {xs : List α} {v : Value} (h : RowD E sz w D xs v) (hE : ∀ x cs, E w D x cs → E' w D x cs) : RowD E' sz w D xs v := by
  obtain ⟨a, cap, e, h1, h2, hr⟩ := h
  refine ⟨a, cap, e, h1, h2, fun hp => ?_⟩
  obtain ⟨g, off, e, hg, hc⟩ := hr hp
  refine ⟨g, off, e, hg, fun i x hx => ?_⟩
  obtain ⟨cs, hl, hcs, hR⟩ := hc i x hx
  exact ⟨cs, hl, hcs, hE x cs hR⟩
theorem Ex.plain {α : Type} {E : ElemR α} {sz : Nat} (hE : ElemOk E sz) {v : Value} {w : World} {D : Nat → Prop} {x : α} {cs : List Value} (h : Ex E v w D x cs) : E w D x cs := hE.step (fun _ hd => hd.1) (fun _ _ _ => rfl) h
theorem Ds.done {c : Cx} {w W : World} {d : DocT} {s : Ms} {vo vf : Value} {co cf : List Value} (h : Ds c w d s vo vf co cf W) (h1 : d.ops.length ≤ 1000000) (h2 : d.frags.length ≤ 1000000) :
    ((W.setCell ⟨w.heap.size, 0, none⟩ vo).setCell ⟨w.heap.size, 1, none⟩ vf).heap[w.heap.size]? = some (.cells #[vo, vf] 25 (0, 0)) ∧ Pw c 0 s w ((W.setCell ⟨w.heap.size, 0, none⟩ vo).setCell ⟨w.heap.size, 1, none⟩ vf) ∧
    DocE ((W.setCell ⟨w.heap.size, 0, none⟩ vo).setCell ⟨w.heap.size, 1, none⟩ vf) (fun b => w.heap.size ≤ b ∧ b < ((W.setCell ⟨w.heap.size, 0, none⟩ vo).setCell ⟨w.heap.size, 1, none⟩ vf).heap.size) d (.agg #[vo, vf]) := by
  have U0 := h.g.b.finE 0 vo (b0' := #[vo, .slice none 0 0]) rfl
  have U1 := U0.finE 1 vf (b0' := #[vo, vf]) rfl
  have hs : ((W.setCell ⟨w.heap.size, 0, none⟩ vo).setCell ⟨w.heap.size, 1, none⟩ vf).heap.size = W.heap.size := by simp [World.setCell]
  have hD : ∀ b, (w.heap.size + 2 ≤ b ∧ b < W.heap.size) → (w.heap.size ≤ b ∧ b < ((W.setCell ⟨w.heap.size, 0, none⟩ vo).setCell ⟨w.heap.size, 1, none⟩ vf).heap.size) := fun b hd => ⟨by omega, by rw [hs]; exact hd.2⟩
  have hk : ∀ b o, (w.heap.size + 2 ≤ b ∧ b < W.heap.size) → ((W.setCell ⟨w.heap.size, 0, none⟩ vo).setCell ⟨w.heap.size, 1, none⟩ vf).cell? ⟨b, o, none⟩ = W.cell? ⟨b, o, none⟩ := fun b o hd => World.cell?_of_block (a := ⟨b, o, none⟩) (by
    rw [Below.heap_setCell _ _ _ _ (show b ≠ w.heap.size by omega), Below.heap_setCell _ _ _ _ (show b ≠ w.heap.size by omega)])
  exact ⟨U1.h0, U1.p, vo, vf, rfl, RowD.step opOk hD hk ((h.o.done (exOk opOk vf) h1).elem fun _ _ => Ex.plain opOk), RowD.step fragOk hD hk ((h.f.done (exOk fragOk vo) h2).elem fun _ _ => Ex.plain fragOk)⟩

/-- What remains of the loop over definitions. -/
def DcRel (c : Cx) (w : World) (RES : DocT × Ms) (j : Nat) (wr : World) : Prop :=
  ∃ d s vo vf co cf, Ds c w d s vo vf co cf wr ∧ s.l.length < j ∧ d.ops.length + d.frags.length + s.l.length ≤ 601 ∧ dgoM c.z j d s = RES
def DocAns (c : Cx) (w : World) (r : DocT × Ms) (e : Ending) (w' : World) : Prop :=
  ∃ vo vf, e = .returned (.agg #[vo, vf]) ∧ DocE w' (fun b => w.heap.size ≤ b ∧ b < w'.heap.size) r.1 (.agg #[vo, vf]) ∧ Pw c 0 r.2 w w'

set_option maxHeartbeats 8000000 in
set_option maxRecDepth 100000 in
theorem pDoc_any {c : Cx} {s : Ms} (w : World) (h : Pv c 0 s w) : Calls Tryz.prog 25 #[.pointer (some ⟨c.R, 0, none⟩)] w (DocAns c w (dcM c.z s)) := by
  have G0 := (Lb.new h 25 #[.slice none 0 0, .slice none 0 0]).made #[.slice none 0 0, .slice none 0 0]
  have hgs : (w.alloc (.cells #[.slice none 0 0, .slice none 0 0] 25 (0, 0))).heap.size = w.heap.size + 1 := by simp
  rw [hgs] at G0
  have D0 : Ds c w docZ s (.slice none 0 0) (.slice none 0 0) [] [] _ := ⟨G0, .nil, .nil, fun b e => by cases e⟩
  have HC1 := pDef_any _ D0 (by decide) (by decide)
  have HE := Lib.hid (defM_eats c.z docZ s)
  have HL := Lib.hid (defM_len c.z docZ s)
  have HM := Lib.hid (show dcM c.z s = dgoM c.z ((defM c.z docZ s).2.l.length + 1) (defM c.z docZ s).1 (defM c.z docZ s).2 from rfl)
  have HLEN := Lib.hid h.len
  generalize dcM c.z s = RES at *
  generalize defM c.z docZ s = R1 at *
  obtain ⟨d1, s1⟩ := R1
  dsimp only at HC1 HE HL HM
  clear G0 D0 h hgs
  go_enter Tryz.func25, Tryz.ntmps25
  go_wp2_with fail
  refine HC1.mono ?_
  rintro e w1 ⟨rfl, vo, vf, co, cf, D1⟩
  have HD1 := Lib.hid D1
  clear D1 HC1
  go_wp2_with fail
  go_loopg [] (s1.l.length + 1) (fun j wr => DcRel c w RES j wr)
  case atStart => exact ⟨d1, s1, vo, vf, co, cf, HD1.out, Nat.lt_succ_self _, by have := HL.out; have := HE.out.le; have := HLEN.out; show _ ≤ 601; have h0 : docZ.ops.length + docZ.frags.length = 0 := rfl; omega, HM.out.symm⟩
  case round =>
    obtain ⟨d, s2, vo2, vf2, co2, cf2, D2, hj, hcnt, hres⟩ := hrel
    obtain ⟨j2, rfl⟩ : ∃ j', gk = j' + 1 := ⟨gk - 1, by omega⟩
    obtain ⟨m, p, hbk, hp, hm, hl⟩ := D2.g.b.p.1.bk
    obtain ⟨c0, c1, -, -, -, -, -⟩ := prCell hbk
    have hRr := D2.g.b.p.1.lt
    have HD2 := Lib.hid D2
    have hlen : s2.l.length = m - p := by rw [← hl, take_drop_len hm]
    clear HD1 HE HL HM HLEN hbk hl
    by_cases he : p < m
    · have hd : decide ((p : Int) < (m : Int)) = true := decide_eq_true (by omega)
      have hd2 : decide (p < m) = true := decide_eq_true he
      have HS := Lib.hid (show RES = dgoM c.z j2 (defM c.z d s2).1 (defM c.z d s2).2 by
        rw [← hres, dgoM, if_neg (by rw [List.isEmpty_iff]; intro e; rw [e] at hlen; simp at hlen; omega)])
      have HC := fun n => pDef_any (wr.drewN n) (D2.below (below_drewN (Below.refl _ _) n)) (by omega) (by omega)
      have HE := Lib.hid (defM_eats c.z d s2)
      have HL := Lib.hid (defM_len c.z d s2)
      generalize defM c.z d s2 = R2 at *
      obtain ⟨d3, s3⟩ := R2
      dsimp only at HS HC HE HL
      have HJ := Lib.hid hj
      have HCN := Lib.hid hcnt
      have HLN := Lib.hid hlen
      clear D2 hres hj hcnt hlen
      go_upto_region 3 with fail
      go_quiet (fail)
      go_wp2_with fail
      refine (HC _).mono ?_
      rintro e w3 ⟨rfl, vo3, vf3, co3, cf3, D3⟩
      have HD3 := Lib.hid D3
      have hbad := D3.g.b.p.1.bad
      have HB := Lib.hid (show s3.l.length < s2.l.length from by
        by_cases h0 : s3.er = 0
        · exact HE.out.lt h0
        · rw [hbad h0]; have := HLN.out; show 0 < _; omega)
      clear D3 HC hbad
      go_wp2_with fail
      go_roundg j2
      case measure => omega
      case rel => exact ⟨d3, s3, vo3, vf3, co3, cf3, HD3.out, by have := HB.out; have := HJ.out; omega, by have := HB.out; have := HL.out; have := HCN.out; omega, HS.out.symm⟩
    · have hd : decide ((p : Int) < (m : Int)) = false := decide_eq_false (by omega)
      have hd2 : decide (p < m) = false := decide_eq_false he
      have HS := Lib.hid (show RES = (d, s2) by
        rw [← hres, dgoM, if_pos (by rw [List.isEmpty_iff]; exact List.eq_nil_of_length_eq_zero (by omega))])
      have HDN := Lib.hid (fun n => (D2.below (below_drewN (Below.refl _ _) n) : Ds c w d s2 vo2 vf2 co2 cf2 (wr.drewN n)).done (by omega) (by omega))
      obtain ⟨k0, k1, kf, kl⟩ := blk2 D2.g.h1
      obtain ⟨q0, q1, qf, ql⟩ := blk2 D2.g.b.h0
      obtain ⟨aO, cO, rfl, -, -⟩ := fresh_row D2.o.own
      obtain ⟨aF, cF, rfl, -, -⟩ := fresh_row D2.f.own
      clear D2 hres hj hcnt hlen HD2
      go_upto_region 3 with fail
      go_quiet (fail)
      rename_i nq
      obtain ⟨hb, hp2, hdoc⟩ := HDN.out nq
      obtain ⟨f0, f1, -, -⟩ := blk2 hb
      have HF := Lib.hid (And.intro f0 f1)
      have HX := Lib.hid (And.intro hdoc hp2)
      clear hb hp2 hdoc f0 f1
      go_wp2_with fail
      obtain ⟨f0, f1⟩ := HF.out
      refine bodyPost_ret (v := .agg #[.slice aO d.ops.length cO, .slice aF d.frags.length cF]) (by simp [results, Tryz.results25, go_sem, f0, f1]) rfl ?_
      rw [HS.out]
      exact ⟨_, _, rfl, HX.out.1, HX.out.2⟩

end Go.Proofs.YtibkncgfdhflgaaGreatDoor

/-
  doc.Parse.
-/
namespace Go.Proofs.YtibkncgfdhflgaaGreatDoor
open Go.RowKit

/-- What Parse answers: the document in new memory, the place, the error. -/
def ParseIs (w : World) (r : DocT × Nat × Nat) (e : Ending) (w' : World) : Prop :=
  ∃ vo vf, e = .returned (.tuple #[.agg #[vo, vf], .int .i64 (r.2.1 : Int), .int .i64 (r.2.2 : Int)]) ∧ DocE w' (fun b => w.heap.size ≤ b ∧ b < w'.heap.size) r.1 (.agg #[vo, vf]) ∧ Below w.heap.size w w'
theorem docZ_E (w : World) (D : Nat → Prop) : DocE w D docZ (.agg #[.slice none 0 0, .slice none 0 0]) := ⟨_, _, rfl, .nil, .nil⟩

def dcB : Obj := .cells #[.slice none 0 0, .slice none 0 0] 25
def tokSmall (ts : List Tk) : Bool := ts.all fun t => decide (t.s.length ≤ 1000000)

theorem pv_start {w2 : World} {a : Option Addr} {cap : Nat} {ts : List Tk} {z : Nat} (ha : a = none ∨ ∃ g, a = some ⟨g, 0, none⟩) (ht : TkAt w2 a ts) (hc : ts.length ≤ cap) (hs : ts.length ≤ 600) (hz : z ≤ 4000) (hsz : ∀ t ∈ ts, t.s.length ≤ 1000000) :
    Pv ⟨w2.heap.size + 1, w2.heap.size, a, cap, ts, z⟩ 0 ⟨ts, 0, 0⟩ (w2.alloc (.cells #[.slice a ts.length cap, .int .i64 0, .int .i64 (z : Int), .int .i64 0, .int .i64 0, .int .i64 0] 67 (0, 0))) := by
  have hsz2 : w2.heap.size + 1 ≤ (w2.alloc (.cells #[.slice a ts.length cap, .int .i64 0, .int .i64 (z : Int), .int .i64 0, .int .i64 0, .int .i64 0] 67 (0, 0))).heap.size := by simp
  refine ⟨⟨ts.length, 0, heap_alloc_new _ _, Nat.zero_le _, Nat.le_refl _, by rw [List.take_length, List.drop_zero]⟩, fun h => absurd rfl h, fun h0 => ?_, fun _ => ha, hsz2, Nat.lt_succ_self _, hc, hs, hz, by decide, hsz⟩
  obtain ⟨g, e, hcell⟩ := ht h0
  obtain ⟨u, hu⟩ := tkCells_first h0
  have hg := cell_lt (hcell 0 u hu)
  exact ⟨g, e, by show g ≠ w2.heap.size; omega, by show g < w2.heap.size + 1; omega, fun j u hj => (World.cell?_of_block (a := ⟨g, j, none⟩) (Below.heap_alloc _ _ _ hg)).trans (hcell j u hj)⟩
theorem tk_of {w : World} {B : Nat} {T : TypeId} {v : Value} {ts : List Tk} (h : w.ownsRow B T 3 v ts.length (tkCells ts)) : ∃ a cap, v = .slice a ts.length cap ∧ ts.length ≤ cap ∧ TkAt w a ts ∧ (a = none ∨ ∃ g, a = some ⟨g, 0, none⟩) := by
  obtain ⟨a, cap, e, hc, ht, _⟩ := tkAt_of h
  refine ⟨a, cap, e, hc, ht, ?_⟩
  rcases h.2 with ⟨hv, _⟩ | ⟨g, cap', cur, hv, _⟩
  · rw [hv] at e; injection e with e; exact .inl e.symm
  · rw [hv] at e; injection e with e; exact .inr ⟨g, e.symm⟩
theorem below_two {w W : World} (h : Below w.heap.size w W) (u v : Value) : Below w.heap.size w ((W.setCell ⟨w.heap.size, 0, none⟩ u).setCell ⟨w.heap.size, 1, none⟩ v) := (h.setCell (p := ⟨w.heap.size, 0, none⟩) (Nat.le_refl _) u).setCell (p := ⟨w.heap.size, 1, none⟩) (Nat.le_refl _) v
theorem dc_two {W : World} {g : Nat} {x y : Value} {T : TypeId} (h : W.heap[g]? = some (.cells #[x, y] T (0, 0))) (c0 c1 : Value) : ((W.setCell ⟨g, 0, none⟩ c0).setCell ⟨g, 1, none⟩ c1).cell? ⟨g, 0, none⟩ = some c0 ∧ ((W.setCell ⟨g, 0, none⟩ c0).setCell ⟨g, 1, none⟩ c1).cell? ⟨g, 1, none⟩ = some c1 ∧ ((W.setCell ⟨g, 0, none⟩ c0).setCell ⟨g, 1, none⟩ c1).heap[g]? = some (.cells #[c0, c1] T (0, 0)) := by
  have h2 : ((W.setCell ⟨g, 0, none⟩ c0).setCell ⟨g, 1, none⟩ c1).heap[g]? = some (.cells #[c0, c1] T (0, 0)) := by rw [Lib.heap_setCell_same (Lib.heap_setCell_same h c0) c1]; rfl
  exact ⟨Lib.cell_of_heap h2 0, Lib.cell_of_heap h2 1, h2⟩

set_option maxHeartbeats 8000000 in
set_option maxRecDepth 100000 in
theorem parse_any (s : ByteArray) (w : World) (hs : s.size ≤ 1000000000) (hsm : tokSmall (lexP s.data.toList).1 = true) : Calls Tryz.prog 12 #[.string s] w (ParseIs w (parseM s.data.toList)) := by
  have hb0 : Below w.heap.size w (w.alloc dcB) := (Below.refl _ w).alloc (Nat.le_refl _) _
  have hz0 : (w.alloc dcB).heap.size = w.heap.size + 1 := by simp
  have hx0 : (w.alloc dcB).heap[w.heap.size]? = some dcB := heap_alloc_new _ _
  by_cases hbig : 4000 < s.size
  · have HM := Lib.hid (show parseM s.data.toList = (docZ, 0, 3) by unfold parseM; rw [if_pos (show 4000 < s.data.toList.length from hbig)])
    have hd : decide ((4000 : Int) < (s.size : Int)) = true := decide_eq_true (by omega)
    unfold dcB at hb0
    clear hsm
    go_enter Tryz.func12, Tryz.ntmps12
    go_wp2_with fail
    refine bodyPost_ret (v := .tuple #[.agg #[.slice none 0 0, .slice none 0 0], .int .i64 0, .int .i64 3]) (by simp [results, Tryz.results12, go_sem]) rfl ?_
    rw [HM.out]
    exact ⟨_, _, rfl, docZ_E _ _, hb0⟩
  · have hd : decide ((4000 : Int) < (s.size : Int)) = false := decide_eq_false (by omega)
    have HLX := lexAll_any s (w.alloc dcB) hs
    have HM := Lib.hid (show parseM s.data.toList = if (lexP s.data.toList).2.2 = 0 then (if 600 < (lexP s.data.toList).1.length then (docZ, 0, 3) else if (dcM s.size ⟨(lexP s.data.toList).1, 0, 0⟩).2.er = 0 then ((dcM s.size ⟨(lexP s.data.toList).1, 0, 0⟩).1, 0, 0) else (docZ, (dcM s.size ⟨(lexP s.data.toList).1, 0, 0⟩).2.wr, (dcM s.size ⟨(lexP s.data.toList).1, 0, 0⟩).2.er)) else (docZ, (lexP s.data.toList).2.1, (lexP s.data.toList).2.2) by
      unfold parseM
      rw [if_neg (show ¬ 4000 < s.data.toList.length from hbig)]
      rfl)
    generalize lexP s.data.toList = LR at *
    obtain ⟨ts, at_, er⟩ := LR
    dsimp only at HM hsm
    have HSM := Lib.hid hsm
    have HB0 := Lib.hid hb0
    have HX0 := Lib.hid hx0
    have HZ0 := Lib.hid hz0
    clear hsm hb0 hx0 hz0
    unfold dcB at HLX
    go_enter Tryz.func12, Tryz.ntmps12
    go_wp2_with fail
    refine HLX.mono ?_
    rintro e w1 ⟨v, rfl, hown, hb1⟩
    dsimp only at hown
    obtain ⟨a, cap, rfl, hc, ht, ha⟩ := tk_of hown
    have hb2 : Below w.heap.size w w1 := HB0.out.trans ((show Below (w.alloc dcB).heap.size (w.alloc dcB) w1 from hb1).mono HB0.out.size)
    have hlt : w.heap.size < w1.heap.size := by have := hb1.size; have h2 := HZ0.out; unfold dcB at h2; omega
    have hbx : w1.heap[w.heap.size]? = some dcB := ((show Below (w.alloc dcB).heap.size (w.alloc dcB) w1 from hb1).block _ (by rw [HZ0.out]; omega)).trans HX0.out
    have HB2 := Lib.hid hb2
    have HT := Lib.hid (And.intro ha ht)
    unfold dcB at hbx
    obtain ⟨q0, q1, qf, ql⟩ := blk2 hbx
    have HBX := Lib.hid hbx
    clear hown hb1 hb2 HLX ha ht hbx
    by_cases he : er = 0
    · subst he
      have hm2 := HM.out
      rw [if_pos rfl] at hm2
      have HM2 := Lib.hid hm2
      clear HM hm2
      by_cases h6 : 600 < ts.length
      · have hd6 : decide ((600 : Int) < (ts.length : Int)) = true := decide_eq_true (by omega)
        have hd7 : decide (600 < ts.length) = true := decide_eq_true h6
        have hm3 := HM2.out
        rw [if_pos h6] at hm3
        have HM3 := Lib.hid hm3
        have HF := Lib.hid (dc_two HBX.out (.slice none 0 0) (.slice none 0 0))
        clear HM2 hm3
        go_wp2_with fail
        obtain ⟨f0, f1, -⟩ := HF.out
        refine bodyPost_ret (v := .tuple #[.agg #[.slice none 0 0, .slice none 0 0], .int .i64 0, .int .i64 3]) (by simp [results, Tryz.results12, go_sem, f0, f1]) rfl ?_
        rw [HM3.out]
        exact ⟨_, _, rfl, docZ_E _ _, below_two HB2.out _ _⟩
      · have hd6 : decide ((600 : Int) < (ts.length : Int)) = false := decide_eq_false (by omega)
        have hd7 : decide (600 < ts.length) = false := decide_eq_false h6
        have hm3 := HM2.out
        rw [if_neg h6] at hm3
        have HM3 := Lib.hid hm3
        have hsz : s.size ≤ 4000 := by omega
        have P0 := pv_start (z := s.size) HT.out.1 HT.out.2 hc (by omega) hsz (fun t ht => by
          have := List.all_eq_true.1 HSM.out t ht
          simpa using this)
        have HD := pDoc_any _ P0
        dsimp only at HD
        have HPO := Lib.hid P0
        have HBA := Lib.hid (HB2.out.alloc HB2.out.size (.cells #[.slice a ts.length cap, .int .i64 0, .int .i64 (s.size : Int), .int .i64 0, .int .i64 0, .int .i64 0] 67 (0, 0)))
        have HBX2 := Lib.hid ((Below.heap_alloc w1 (.cells #[.slice a ts.length cap, .int .i64 0, .int .i64 (s.size : Int), .int .i64 0, .int .i64 0, .int .i64 0] 67 (0, 0)) _ hlt).trans HBX.out)
        have HSA := Lib.hid (show (w1.alloc (.cells #[.slice a ts.length cap, .int .i64 0, .int .i64 (s.size : Int), .int .i64 0, .int .i64 0, .int .i64 0] 67 (0, 0))).heap.size = w1.heap.size + 1 by simp)
        generalize dcM s.size ⟨ts, 0, 0⟩ = RD at *
        obtain ⟨d, s3⟩ := RD
        dsimp only at HM3
        clear HM2 hm3 P0 HSM
        go_wp2_with fail
        refine HD.mono ?_
        rintro e w3 ⟨vo, vf, rfl, hdoc, p3⟩
        dsimp only at hdoc
        obtain ⟨oa, oc, hvo⟩ : ∃ oa oc, vo = .slice oa d.ops.length oc := by
          obtain ⟨vo', vf', e, h1, _⟩ := hdoc
          injection e with e
          have e' := congrArg Array.toList e
          simp at e'
          rw [e'.1]; exact h1.shape
        obtain ⟨fa, fc, hvf⟩ : ∃ fa fc, vf = .slice fa d.frags.length fc := by
          obtain ⟨vo', vf', e, _, h1⟩ := hdoc
          injection e with e
          have e' := congrArg Array.toList e
          simp at e'
          rw [e'.2]; exact h1.shape
        subst hvo hvf
        have hb3 : Below w.heap.size w w3 := HBA.out.trans (p3.2.mono (by have := HSA.out; omega) |>.below (Nat.le_of_lt hlt))
        have hx3 := (p3.2.block w.heap.size (by have := HSA.out; omega) (by show w.heap.size ≠ w1.heap.size; omega)).trans HBX2.out
        have HB3 := Lib.hid hb3
        obtain ⟨m, p, hbk, -, -, -⟩ := p3.1.bk
        obtain ⟨-, -, -, -, c4, c5, -⟩ := prCell hbk
        have hR3 := p3.1.lt
        dsimp only at c4 c5 hR3
        obtain ⟨r0, r1, rf, rl⟩ := blk2 hx3
        have HDC := Lib.hid (dc_two hx3 (.slice oa d.ops.length oc) (.slice fa d.frags.length fc))
        have HDE := Lib.hid hdoc
        have hne1 : w1.heap.size ≠ w.heap.size := by omega
        clear hb3 hx3 hbk p3 hdoc HD q0 q1 qf ql
        by_cases he3 : s3.er = 0
        · rw [he3] at c4
          have hm4 := HM3.out
          rw [if_pos he3] at hm4
          have HM4 := Lib.hid hm4
          have HDF := Lib.hid (dc_two HDC.out.2.2 (.slice oa d.ops.length oc) (.slice fa d.frags.length fc))
          clear hm4 HM3 he3
          go_wp2_with fail
          obtain ⟨f0, f1, -⟩ := HDF.out
          refine bodyPost_ret (v := .tuple #[.agg #[.slice oa d.ops.length oc, .slice fa d.frags.length fc], .int .i64 0, .int .i64 0]) (by simp [results, Tryz.results12, go_sem, f0, f1]) rfl ?_
          rw [HM4.out]
          refine ⟨_, _, rfl, ?_, below_two (W := (w3.setCell ⟨w.heap.size, 0, none⟩ _).setCell ⟨w.heap.size, 1, none⟩ _) (below_two HB3.out _ _) _ _⟩
          refine DocE.step (fun b hd => ⟨by have := hd.1; have := HSA.out; omega, by simp only [World.setCell, Array.size_modify]; exact hd.2⟩) (fun b o hd => World.cell?_of_block (a := ⟨b, o, none⟩) ?_) HDE.out
          have hbw : b ≠ w.heap.size := by have := hd.1; have := HSA.out; omega
          show ((((w3.setCell ⟨w.heap.size, 0, none⟩ _).setCell ⟨w.heap.size, 1, none⟩ _).setCell ⟨w.heap.size, 0, none⟩ _).setCell ⟨w.heap.size, 1, none⟩ _).heap[b]? = _
          rw [Below.heap_setCell _ _ _ _ hbw, Below.heap_setCell _ _ _ _ hbw, Below.heap_setCell _ _ _ _ hbw, Below.heap_setCell _ _ _ _ hbw]
        · have hne : ((s3.er : Int) != 0) = true := by simp; omega
          have hm4 := HM3.out
          rw [if_neg he3] at hm4
          have HM4 := Lib.hid hm4
          have HDF := Lib.hid (dc_two HDC.out.2.2 (.slice none 0 0) (.slice none 0 0))
          clear hm4 HM3 he3
          go_upto_region 11 with fail
          go_region
          all_goals
            go_wp2_with fail
            obtain ⟨f0, f1, -⟩ := HDF.out
            refine bodyPost_ret (v := .tuple #[.agg #[.slice none 0 0, .slice none 0 0], .int .i64 (s3.wr : Int), .int .i64 (s3.er : Int)]) (by simp [results, Tryz.results12, go_sem, f0, f1]) rfl ?_
            rw [HM4.out]
            refine ⟨_, _, rfl, docZ_E _ _, ?_⟩
            first
              | exact below_drewN (below_two (W := (w3.setCell ⟨w.heap.size, 0, none⟩ _).setCell ⟨w.heap.size, 1, none⟩ _) (below_two HB3.out _ _) _ _) _
              | exact below_two (W := World.drewN ((w3.setCell ⟨w.heap.size, 0, none⟩ _).setCell ⟨w.heap.size, 1, none⟩ _) _) (below_drewN (below_two HB3.out _ _) _) _ _
    · have hne : ((er : Int) != 0) = true := by simp; omega
      have hm2 := HM.out
      rw [if_neg he] at hm2
      have HM2 := Lib.hid hm2
      have HF := Lib.hid (dc_two HBX.out (.slice none 0 0) (.slice none 0 0))
      clear HM hm2 he
      go_wp2_with fail
      obtain ⟨f0, f1, -⟩ := HF.out
      refine bodyPost_ret (v := .tuple #[.agg #[.slice none 0 0, .slice none 0 0], .int .i64 (at_ : Int), .int .i64 (er : Int)]) (by simp [results, Tryz.results12, go_sem, f0, f1]) rfl ?_
      rw [HM2.out]
      exact ⟨_, _, rfl, docZ_E _ _, below_two HB2.out _ _⟩

end Go.Proofs.YtibkncgfdhflgaaGreatDoor
