/-
  doc's parser: a spread, an inline fragment.
-/
import Derived.Test.YtibkncgfdhflgaaGreatDoorMDlg
import Derived.Deep.DeepCutAuto
namespace Go.Proofs.YtibkncgfdhflgaaGreatDoor
open Go.RowKit

theorem SelE.one {w : World} {D : Nat → Prop} {n kk : Nat} {al nm on_ : Nm} {args : List ArgT} {dirs : List DirT} {sels : List SelT} {va vd vs : Value} (h1 : al.length ≤ 1000000) (h2 : nm.length ≤ 1000000) (h3 : on_.length ≤ 1000000) (ha : RowD ArgE 5 w D args va) (hd : RowD DirE 2 w D dirs vd) (hs : RowD (SelE n) 7 w D sels vs) :
    SelE (n + 1) w D (.mk kk al nm on_ args dirs sels) [.int .i64 (kk : Int), .string ⟨al.toArray⟩, .string ⟨nm.toArray⟩, .string ⟨on_.toArray⟩, va, vd, vs] := ⟨⟨h1, h2, h3⟩, va, vd, vs, rfl, ha, hd, hs⟩

set_option maxHeartbeats 4000000 in
set_option maxRecDepth 100000 in
theorem pSpread_any {c : Cx} {k f : Nat} {s : Ms} (w : World) (h : Pv c k s w) : Calls Tryz.prog 156 #[.pointer (some ⟨c.R, 0, none⟩)] w (RecAns (SelE (f + 1)) c k w (spM c.z s)) := by
  have L0 := Lb.new h 41 #[.int .i64 0, .string ⟨#[]⟩, .string ⟨#[]⟩, .string ⟨#[]⟩, .slice none 0 0, .slice none 0 0, .slice none 0 0]
  have HL0 := Lib.hid L0
  have HC1 := pNm_any _ L0.p.1
  have HM := Lib.hid (show spM c.z s = (.mk 2 [] (nmM c.z s).1 [] [] (dirM c.z (nmM c.z s).2).1 [], (dirM c.z (nmM c.z s).2).2) from rfl)
  have HZ := Lib.hid (nmM_size h)
  generalize nmM c.z s = R1 at *
  generalize spM c.z s = RES at *
  obtain ⟨nm, s1⟩ := R1
  dsimp only at HC1 HM HZ
  clear L0 h
  go_enter Tryz.func156, Tryz.ntmps156
  go_wp2_with fail
  refine HC1.mono ?_
  rintro e w1 ⟨rfl, p1⟩
  have G1 := (HL0.out.call p1).made #[.int .i64 2, .string ⟨#[]⟩, .string ⟨nm.toArray⟩, .string ⟨#[]⟩, .slice none 0 0, .slice none 0 0, .slice none 0 0]
  have hlt := HL0.out.sz
  have hlt1 := (HL0.out.call p1).sz
  have HC2 := pDirs_any _ G1.b.p.1
  have HG1 := Lib.hid G1
  clear p1 G1 HC1 HL0
  go_wp2_with fail
  refine HC2.mono ?_
  rintro e w3 ⟨v, rfl, hR, p3⟩
  have G3 := HG1.out.call p3
  have hd := RowD.step (D' := Dg w w1.heap.size w3) (w' := w3) dirOk (dg_of HG1.out) (fun _ _ _ => rfl) hR
  obtain ⟨va, vc, rfl⟩ := hR.shape
  have T1 := G3.1.set 5 (.slice va (dirM c.z s1).1.length vc)
  have U := T1.1.fin7 (.int .i64 2) (.string ⟨#[]⟩) (.string ⟨nm.toArray⟩) (.string ⟨#[]⟩) (.slice none 0 0) (.slice va (dirM c.z s1).1.length vc) (.slice none 0 0)
  have HK := Lib.hid (T1.2.trans U.2)
  have HRD := Lib.hid hd
  have HU := Lib.hid U.1
  obtain ⟨b0, b1, b2, b3, b4, b5, b6, bf, bl⟩ := blk7 G3.1.h1
  obtain ⟨a0, a1, a2, a3, a4, a5, a6, af, al⟩ := blk7 G3.1.b.h0
  obtain ⟨f0, f1, f2, f3, f4, f5, f6, -, -⟩ := blk7 U.1.b.h0
  have HF := Lib.hid (And.intro f0 (And.intro f1 (And.intro f2 (And.intro f3 (And.intro f4 (And.intro f5 f6))))))
  have hbw : w1.heap.size ≠ w.heap.size := by omega
  clear p3 G3 HC2 HG1 hR hd T1 U f0 f1 f2 f3 f4 f5 f6
  go_wp2_with fail
  obtain ⟨f0, f1, f2, f3, f4, f5, f6⟩ := HF.out
  refine bodyPost_ret (v := .agg #[.int .i64 2, .string ⟨#[]⟩, .string ⟨nm.toArray⟩, .string ⟨#[]⟩, .slice none 0 0, .slice va (dirM c.z s1).1.length vc, .slice none 0 0]) (by simp [results, Tryz.results156, go_sem, f0, f1, f2, f3, f4, f5, f6]) rfl ?_
  rw [HM.out]
  exact ⟨[.int .i64 2, .string ⟨#[]⟩, .string ⟨nm.toArray⟩, .string ⟨#[]⟩, .slice none 0 0, .slice va (dirM c.z s1).1.length vc, .slice none 0 0], rfl, (selOk (f + 1)).step dg_fin (fun _ _ _ => rfl) (SelE.one (by decide) HZ.out (by decide) .nil (HK.out.row dirOk HRD.out) .nil), HU.out.b.p⟩

/-- The contract of set that a selection is given. -/
def SetOk (c : Cx) (k f : Nat) : Prop := ∀ (s : Ms) (W : World), Pv c k s W → Calls Tryz.prog 90 #[.pointer (some ⟨c.R, 0, none⟩)] W (RowAns (SelE f) 7 c k W (setM c.z f s))

set_option maxHeartbeats 4000000 in
set_option maxRecDepth 100000 in
theorem pInline_any {c : Cx} {k f : Nat} {s : Ms} (w : World) (h : Pv c k s w) (ih : SetOk c k f) : Calls Tryz.prog 157 #[.pointer (some ⟨c.R, 0, none⟩)] w (RecAns (SelE (f + 1)) c k w (inM c.z (setM c.z f) s)) := by
  have G0 := (Lb.new h 41 #[.int .i64 0, .string ⟨#[]⟩, .string ⟨#[]⟩, .string ⟨#[]⟩, .slice none 0 0, .slice none 0 0, .slice none 0 0]).made #[.int .i64 3, .string ⟨#[]⟩, .string ⟨#[]⟩, .string ⟨#[]⟩, .slice none 0 0, .slice none 0 0, .slice none 0 0]
  have hgs : (w.alloc (.cells #[.int .i64 0, .string ⟨#[]⟩, .string ⟨#[]⟩, .string ⟨#[]⟩, .slice none 0 0, .slice none 0 0, .slice none 0 0] 41 (0, 0))).heap.size = w.heap.size + 1 := by simp
  rw [hgs] at G0
  have HC1 := pTakeWord_any onS _ G0.b.p.1
  have HM := Lib.hid (show inM c.z (setM c.z f) s = (.mk 3 [] [] (onM c.z s).1 [] (dirM c.z (onM c.z s).2).1 (setM c.z f (dirM c.z (onM c.z s).2).2).1, (setM c.z f (dirM c.z (onM c.z s).2).2).2) from rfl)
  have HO := Lib.hid (show onM c.z s = if isWd onS (hdT s.l) then nmM c.z (tlM s) else ([], s) from rfl)
  have HG0 := Lib.hid G0
  have HI := Lib.hid ih
  generalize onM c.z s = R1 at *
  generalize inM c.z (setM c.z f) s = RES at *
  obtain ⟨nm, s1⟩ := R1
  dsimp only at HM
  clear G0 h ih hgs
  go_enter Tryz.func157, Tryz.ntmps157
  go_wp2_with fail
  refine HC1.mono ?_
  rintro e w1 ⟨rfl, p1⟩
  have G1 := HG0.out.call p1
  have HG1 := Lib.hid G1.1
  obtain ⟨b0, b1, b2, b3, b4, b5, b6, bf, bl⟩ := blk7 G1.1.h1
  clear G1 HC1 HG0 p1
  go_upto_if 6 with fail
  go_cut [] (fun wc => Lg c k w 41 (w.heap.size + 1) #[.int .i64 0, .string ⟨#[]⟩, .string ⟨#[]⟩, .string ⟨#[]⟩, .slice none 0 0, .slice none 0 0, .slice none 0 0] #[.int .i64 3, .string ⟨#[]⟩, .string ⟨#[]⟩, .string ⟨nm.toArray⟩, .slice none 0 0, .slice none 0 0, .slice none 0 0] s1 wc ∧ nm.length ≤ 1000000)
  case first =>
    cases hi : isWd onS (hdT s.l) with
    | true =>
      rw [hi] at HO HG1
      simp only [reduceIte] at HO HG1
      have HC2 := pNm_any w1 HG1.out.b.p.1
      have HZ := Lib.hid (nmM_size HG1.out.b.p.1)
      rw [← HO.out] at HC2 HZ
      dsimp only at HC2 HZ
      clear hi HO HI
      go_wp2_with fail
      refine HC2.mono ?_
      rintro e w2 ⟨rfl, p2⟩
      have G2 := HG1.out.call p2
      have T2 := Lib.hid (G2.1.set 3 (.string ⟨nm.toArray⟩)).1
      clear b0 b1 b2 b3 b4 b5 b6 bf bl
      obtain ⟨b0, b1, b2, b3, b4, b5, b6, bf, bl⟩ := blk7 G2.1.h1
      clear p2 G2 HC2 HG1
      go_wp2_with fail
      go_meet
      case rel => exact ⟨T2.out, HZ.out⟩
    | false =>
      rw [hi] at HO HG1
      simp only [reduceIte, Bool.false_eq_true] at HO HG1
      have ho := HO.out
      injection ho with ho1 ho2
      subst ho1 ho2
      clear hi HO HI
      go_wp2_with fail
      go_meet
      case rel => exact ⟨HG1.out, by decide⟩
  case rest =>
    obtain ⟨G2, hz⟩ := hcut
    have HZ := Lib.hid hz
    have HC2 := pDirs_any _ G2.b.p.1
    have HG2 := Lib.hid G2
    clear G2 HG1 hz b0 b1 b2 b3 b4 b5 b6 bf bl
    go_wp2_with fail
    refine HC2.mono ?_
    rintro e w3 ⟨v, rfl, hR, p3⟩
    have G3 := HG2.out.call p3
    have hd := RowD.step (D' := Dg w (w.heap.size + 1) w3) (w' := w3) dirOk (dg_of HG2.out) (fun _ _ _ => rfl) hR
    generalize dirM c.z s1 = RD at *
    obtain ⟨ds, s2⟩ := RD
    dsimp only at HM hd G3 hR
    obtain ⟨va, vc, rfl⟩ := hR.shape
    have T3 := G3.1.set 5 (.slice va ds.length vc)
    have HC3 := HI.out _ _ T3.1.b.p.1
    have HD3 := Lib.hid (T3.2.row dirOk hd)
    have HT3 := Lib.hid T3.1
    obtain ⟨b0, b1, b2, b3, b4, b5, b6, bf, bl⟩ := blk7 G3.1.h1
    clear p3 G3 HC2 HG2 hR hd T3
    go_wp2_with fail
    refine HC3.mono ?_
    rintro e w4 ⟨v, rfl, hR, p4⟩
    have G4 := HT3.out.call p4
    have hd := RowD.step (D' := Dg w (w.heap.size + 1) w4) (w' := w4) (selOk f) (dg_of HT3.out) (fun _ _ _ => rfl) hR
    have hd3 := G4.2.row dirOk HD3.out
    generalize setM c.z f s2 = RS at *
    obtain ⟨ss, s4⟩ := RS
    dsimp only at HM hd G4 hR
    obtain ⟨xa, xc, rfl⟩ := hR.shape
    have T4 := G4.1.set 6 (.slice xa ss.length xc)
    have U := T4.1.fin7 (.int .i64 3) (.string ⟨#[]⟩) (.string ⟨#[]⟩) (.string ⟨nm.toArray⟩) (.slice none 0 0) (.slice va ds.length vc) (.slice xa ss.length xc)
    have HK := Lib.hid (T4.2.trans U.2)
    have HRD := Lib.hid hd
    have HRD3 := Lib.hid hd3
    have HU := Lib.hid U.1
    clear b0 b1 b2 b3 b4 b5 b6 bf bl
    obtain ⟨b0, b1, b2, b3, b4, b5, b6, bf, bl⟩ := blk7 G4.1.h1
    obtain ⟨a0, a1, a2, a3, a4, a5, a6, af, al⟩ := blk7 G4.1.b.h0
    obtain ⟨f0, f1, f2, f3, f4, f5, f6, -, -⟩ := blk7 U.1.b.h0
    have HF := Lib.hid (And.intro f0 (And.intro f1 (And.intro f2 (And.intro f3 (And.intro f4 (And.intro f5 f6))))))
    clear p4 G4 HC3 HT3 hR hd hd3 T4 U f0 f1 f2 f3 f4 f5 f6 HD3
    go_wp2_with fail
    obtain ⟨f0, f1, f2, f3, f4, f5, f6⟩ := HF.out
    refine bodyPost_ret (v := .agg #[.int .i64 3, .string ⟨#[]⟩, .string ⟨#[]⟩, .string ⟨nm.toArray⟩, .slice none 0 0, .slice va ds.length vc, .slice xa ss.length xc]) (by simp [results, Tryz.results157, go_sem, f0, f1, f2, f3, f4, f5, f6]) rfl ?_
    rw [HM.out]
    exact ⟨[.int .i64 3, .string ⟨#[]⟩, .string ⟨#[]⟩, .string ⟨nm.toArray⟩, .slice none 0 0, .slice va ds.length vc, .slice xa ss.length xc], rfl, (selOk (f + 1)).step dg_fin (fun _ _ _ => rfl) (SelE.one (by decide) (by decide) HZ.out .nil (HK.out.row dirOk HRD3.out) (HK.out.row (selOk f) HRD.out)), HU.out.b.p⟩

end Go.Proofs.YtibkncgfdhflgaaGreatDoor

/-
  doc's parser: a field.
-/
namespace Go.Proofs.YtibkncgfdhflgaaGreatDoor
open Go.RowKit

set_option maxHeartbeats 8000000 in
set_option maxRecDepth 100000 in
theorem pField_any {c : Cx} {k f : Nat} {s : Ms} (w : World) (h : Pv c k s w) (ih : SetOk c k f) : Calls Tryz.prog 155 #[.pointer (some ⟨c.R, 0, none⟩)] w (RecAns (SelE (f + 1)) c k w (fiM c.z (setM c.z f) s)) := by
  have L0 := Lb.new h 41 #[.int .i64 0, .string ⟨#[]⟩, .string ⟨#[]⟩, .string ⟨#[]⟩, .slice none 0 0, .slice none 0 0, .slice none 0 0]
  have HL0 := Lib.hid L0
  have HC1 := pNm_any _ L0.p.1
  have HM := Lib.hid (show fiM c.z (setM c.z f) s = (.mk 1 (alM c.z (nmM c.z s)).1.1 (alM c.z (nmM c.z s)).1.2 [] (asM c.z (alM c.z (nmM c.z s)).2).1 (dirM c.z (asM c.z (alM c.z (nmM c.z s)).2).2).1 (ssM (setM c.z f) (dirM c.z (asM c.z (alM c.z (nmM c.z s)).2).2).2).1, (ssM (setM c.z f) (dirM c.z (asM c.z (alM c.z (nmM c.z s)).2).2).2).2) from rfl)
  have HZ := Lib.hid (nmM_size h)
  have HI := Lib.hid ih
  generalize nmM c.z s = R1 at *
  generalize fiM c.z (setM c.z f) s = RES at *
  obtain ⟨nm, s1⟩ := R1
  dsimp only at HC1 HZ
  have HO := Lib.hid (show alM c.z (nm, s1) = if isSg [58] (hdT s1.l) then ((nm, (nmM c.z (tlM s1)).1), (nmM c.z (tlM s1)).2) else (([], nm), s1) from rfl)
  generalize alM c.z (nm, s1) = RA at *
  obtain ⟨⟨al, nm2⟩, s2⟩ := RA
  dsimp only at HM
  clear L0 h ih
  go_enter Tryz.func155, Tryz.ntmps155
  go_wp2_with fail
  refine HC1.mono ?_
  rintro e w1 ⟨rfl, p1⟩
  have G1 := (HL0.out.call p1).made #[.int .i64 1, .string ⟨#[]⟩, .string ⟨nm.toArray⟩, .string ⟨#[]⟩, .slice none 0 0, .slice none 0 0, .slice none 0 0]
  have hlt := HL0.out.sz
  have hlt1 := (HL0.out.call p1).sz
  have HC2 := pTakeSign_any [58] _ G1.b.p.1
  have HG1 := Lib.hid G1
  have hbw : w1.heap.size ≠ w.heap.size := by omega
  clear p1 G1 HC1 HL0
  go_wp2_with fail
  refine HC2.mono ?_
  rintro e w2 ⟨rfl, p2⟩
  have G2 := HG1.out.call p2
  have HG2 := Lib.hid G2.1
  obtain ⟨b0, b1, b2, b3, b4, b5, b6, bf, bl⟩ := blk7 G2.1.h1
  clear p2 G2 HC2 HG1
  go_upto_if 8 with fail
  go_cut [] (fun wc => Lg c k w 41 w1.heap.size #[.int .i64 0, .string ⟨#[]⟩, .string ⟨#[]⟩, .string ⟨#[]⟩, .slice none 0 0, .slice none 0 0, .slice none 0 0] #[.int .i64 1, .string ⟨al.toArray⟩, .string ⟨nm2.toArray⟩, .string ⟨#[]⟩, .slice none 0 0, .slice none 0 0, .slice none 0 0] s2 wc ∧ al.length ≤ 1000000 ∧ nm2.length ≤ 1000000)
  case first =>
    cases hi : isSg [58] (hdT s1.l) with
    | true =>
      rw [hi] at HO HG2
      simp only [reduceIte] at HO HG2
      have T2 := HG2.out.set 1 (.string ⟨nm.toArray⟩)
      have HC3 := pNm_any _ T2.1.b.p.1
      have HZ2 := Lib.hid (nmM_size HG2.out.b.p.1)
      have HT2 := Lib.hid T2.1
      generalize nmM c.z (tlM s1) = R3 at *
      obtain ⟨nm3, s3⟩ := R3
      have ho := HO.out
      injection ho with ho1 ho2
      injection ho1 with ho1 ho3
      subst ho1 ho2 ho3
      dsimp only at HC3 HZ2
      clear hi HO HI T2
      go_wp2_with fail
      refine HC3.mono ?_
      rintro e w3 ⟨rfl, p3⟩
      have G3 := HT2.out.call p3
      have T3 := Lib.hid (G3.1.set 2 (.string ⟨nm2.toArray⟩)).1
      clear b0 b1 b2 b3 b4 b5 b6 bf bl
      obtain ⟨b0, b1, b2, b3, b4, b5, b6, bf, bl⟩ := blk7 G3.1.h1
      clear p3 G3 HC3 HT2 HG2
      go_wp2_with fail
      go_meet
      case rel => exact ⟨T3.out, HZ.out, HZ2.out⟩
    | false =>
      rw [hi] at HO HG2
      simp only [reduceIte, Bool.false_eq_true] at HO HG2
      have ho := HO.out
      injection ho with ho1 ho2
      injection ho1 with ho1 ho3
      subst ho1 ho2 ho3
      clear hi HO HI
      go_wp2_with fail
      go_meet
      case rel => exact ⟨HG2.out, by decide, HZ.out⟩
  case rest =>
    obtain ⟨G3, hz⟩ := hcut
    have HZ3 := Lib.hid hz
    have HC2 := pArgs_any _ G3.b.p.1
    have HG3 := Lib.hid G3
    clear G3 HG2 hz b0 b1 b2 b3 b4 b5 b6 bf bl HO HZ
    go_wp2_with fail
    refine HC2.mono ?_
    rintro e w3 ⟨v, rfl, hR, p3⟩
    have G4 := HG3.out.call p3
    have hd := RowD.step (D' := Dg w w1.heap.size w3) (w' := w3) argOk (dg_of HG3.out) (fun _ _ _ => rfl) hR
    generalize asM c.z s2 = RD at *
    obtain ⟨gs, s3⟩ := RD
    dsimp only at HM hd G4 hR
    obtain ⟨va, vc, rfl⟩ := hR.shape
    have T4 := G4.1.set 4 (.slice va gs.length vc)
    have HC3 := pDirs_any _ T4.1.b.p.1
    have HD4 := Lib.hid (T4.2.row argOk hd)
    have HT4 := Lib.hid T4.1
    obtain ⟨b0, b1, b2, b3, b4, b5, b6, bf, bl⟩ := blk7 G4.1.h1
    clear p3 G4 HC2 HG3 hR hd T4
    go_wp2_with fail
    refine HC3.mono ?_
    rintro e w4 ⟨v, rfl, hR, p4⟩
    have G5 := HT4.out.call p4
    have hd := RowD.step (D' := Dg w w1.heap.size w4) (w' := w4) dirOk (dg_of HT4.out) (fun _ _ _ => rfl) hR
    generalize dirM c.z s3 = RD at *
    obtain ⟨ds, s4⟩ := RD
    dsimp only at HM hd G5 hR
    obtain ⟨xa, xc, rfl⟩ := hR.shape
    have T5 := G5.1.set 5 (.slice xa ds.length xc)
    have HC4 := pSign_any [123] _ T5.1.b.p.1
    have HA5 := Lib.hid (T5.2.row argOk (G5.2.row argOk HD4.out))
    have HD5 := Lib.hid (T5.2.row dirOk hd)
    have HT5 := Lib.hid T5.1
    clear b0 b1 b2 b3 b4 b5 b6 bf bl
    obtain ⟨b0, b1, b2, b3, b4, b5, b6, bf, bl⟩ := blk7 G5.1.h1
    have HSS := Lib.hid (show ssM (setM c.z f) s4 = if isSg [123] (hdT s4.l) then setM c.z f s4 else ([], s4) from rfl)
    generalize ssM (setM c.z f) s4 = RS at *
    obtain ⟨ss, s5⟩ := RS
    dsimp only at HM
    clear p4 G5 HC3 HT4 HD4 hR hd T5
    go_wp2_with fail
    refine HC4.mono ?_
    rintro e w5 ⟨rfl, hb5⟩
    have G6 := HT5.out.below hb5
    have HA6 := Lib.hid (G6.2.row argOk HA5.out)
    have HD6 := Lib.hid (G6.2.row dirOk HD5.out)
    have HG6 := Lib.hid G6.1
    clear b0 b1 b2 b3 b4 b5 b6 bf bl
    obtain ⟨b0, b1, b2, b3, b4, b5, b6, bf, bl⟩ := blk7 G6.1.h1
    clear HC4 HT5 HA5 HD5 G6 hb5
    go_upto_if 22 with fail
    go_cut [] (fun wc => ∃ sa sc, Lg c k w 41 w1.heap.size #[.int .i64 0, .string ⟨#[]⟩, .string ⟨#[]⟩, .string ⟨#[]⟩, .slice none 0 0, .slice none 0 0, .slice none 0 0] #[.int .i64 1, .string ⟨al.toArray⟩, .string ⟨nm2.toArray⟩, .string ⟨#[]⟩, .slice va gs.length vc, .slice xa ds.length xc, .slice sa ss.length sc] s5 wc ∧ RowD ArgE 5 wc (Dg w w1.heap.size wc) gs (.slice va gs.length vc) ∧ RowD DirE 2 wc (Dg w w1.heap.size wc) ds (.slice xa ds.length xc) ∧ RowD (SelE f) 7 wc (Dg w w1.heap.size wc) ss (.slice sa ss.length sc))
    case first =>
      cases hi : isSg [123] (hdT s4.l) with
      | true =>
        rw [hi] at HSS
        simp only [reduceIte] at HSS
        have HC5 := HI.out s4 w5 HG6.out.b.p.1
        rw [← HSS.out] at HC5
        clear hi HSS HI
        go_wp2_with fail
        refine HC5.mono ?_
        rintro e w6 ⟨v, rfl, hR, p6⟩
        dsimp only at hR p6
        have G7 := HG6.out.call p6
        have hd := RowD.step (D' := Dg w w1.heap.size w6) (w' := w6) (selOk f) (dg_of HG6.out) (fun _ _ _ => rfl) hR
        obtain ⟨sa, sc, rfl⟩ := hR.shape
        have T7 := G7.1.set 6 (.slice sa ss.length sc)
        have HX := Lib.hid (show _ ∧ _ ∧ _ ∧ _ from ⟨T7.1, T7.2.row argOk (G7.2.row argOk HA6.out), T7.2.row dirOk (G7.2.row dirOk HD6.out), T7.2.row (selOk f) hd⟩)
        clear b0 b1 b2 b3 b4 b5 b6 bf bl
        obtain ⟨b0, b1, b2, b3, b4, b5, b6, bf, bl⟩ := blk7 G7.1.h1
        clear p6 G7 HC5 HG6 HA6 HD6 hR hd T7
        go_wp2_with fail
        go_meet
        case rel => exact ⟨sa, sc, HX.out⟩
      | false =>
        rw [hi] at HSS
        simp only [reduceIte, Bool.false_eq_true] at HSS
        have ho := HSS.out
        injection ho with ho1 ho2
        subst ho1 ho2
        clear hi HSS HI
        go_wp2_with fail
        go_meet
        case rel => exact ⟨none, 0, HG6.out, HA6.out, HD6.out, .nil⟩
    case rest =>
      obtain ⟨sa, sc, G8, hA, hD, hS⟩ := hcut
      have U := G8.fin7 (.int .i64 1) (.string ⟨al.toArray⟩) (.string ⟨nm2.toArray⟩) (.string ⟨#[]⟩) (.slice va gs.length vc) (.slice xa ds.length xc) (.slice sa ss.length sc)
      have HA := Lib.hid (U.2.row argOk hA)
      have HD := Lib.hid (U.2.row dirOk hD)
      have HS := Lib.hid (U.2.row (selOk f) hS)
      have HU := Lib.hid U.1
      clear b0 b1 b2 b3 b4 b5 b6 bf bl
      obtain ⟨b0, b1, b2, b3, b4, b5, b6, bf, bl⟩ := blk7 G8.h1
      obtain ⟨a0, a1, a2, a3, a4, a5, a6, af, al2⟩ := blk7 G8.b.h0
      obtain ⟨f0, f1, f2, f3, f4, f5, f6, -, -⟩ := blk7 U.1.b.h0
      have HF := Lib.hid (And.intro f0 (And.intro f1 (And.intro f2 (And.intro f3 (And.intro f4 (And.intro f5 f6))))))
      clear G8 U hA hD hS HA6 HD6 HG6 f0 f1 f2 f3 f4 f5 f6 HI HSS
      go_wp2_with fail
      obtain ⟨f0, f1, f2, f3, f4, f5, f6⟩ := HF.out
      refine bodyPost_ret (v := .agg #[.int .i64 1, .string ⟨al.toArray⟩, .string ⟨nm2.toArray⟩, .string ⟨#[]⟩, .slice va gs.length vc, .slice xa ds.length xc, .slice sa ss.length sc]) (by simp [results, Tryz.results155, go_sem, f0, f1, f2, f3, f4, f5, f6]) rfl ?_
      rw [HM.out]
      exact ⟨[.int .i64 1, .string ⟨al.toArray⟩, .string ⟨nm2.toArray⟩, .string ⟨#[]⟩, .slice va gs.length vc, .slice xa ds.length xc, .slice sa ss.length sc], rfl, (selOk (f + 1)).step dg_fin (fun _ _ _ => rfl) (SelE.one HZ3.out.1 HZ3.out.2 (by decide) HA.out HD.out HS.out), HU.out.b.p⟩

end Go.Proofs.YtibkncgfdhflgaaGreatDoor

/-
  doc's parser: one or more parts of type api.Sel.
-/
namespace Go.Proofs.YtibkncgfdhflgaaGreatDoor
open Go.RowKit

theorem infoSel : (Tryz.prog.info? 41).map (fun i => (i.zero, i.size, i.bytes)) = some (some (.agg #[.int .i64 0, .string ⟨#[]⟩, .string ⟨#[]⟩, .string ⟨#[]⟩, .slice none 0 0, .slice none 0 0, .slice none 0 0]), 7, 128) := by kernel_rfl

set_option maxHeartbeats 4000000 in
set_option maxRecDepth 100000 in
theorem sevSel_any {c : Cx} {k f : Nat} {s : Ms} (b e : List UInt8) (P : Ms → SelT × Ms) (w : World) (h : Pv c k s w) (hP : ∀ s' W, Pv c k s' W → Calls Tryz.prog 131 #[.pointer (some ⟨c.R, 0, none⟩)] W (RecAns (SelE f) c k W (P s')))
    (hless : ∀ s', s'.er = 0 → (P s').2.er = 0 → (P s').2.l.length < s'.l.length) :
    Calls Tryz.prog 130 #[.pointer (some ⟨c.R, 0, none⟩), .string ⟨b.toArray⟩, .func (.func 131) #[.pointer (some ⟨c.R, 0, none⟩)] #[], .string ⟨e.toArray⟩] w (RowAns (SelE f) 7 c k w (svM c.z b e P s)) := by
  obtain ⟨i2, hi2, hz20, hz21, hz22⟩ := info_parts infoSel
  have HM := pMust_any b w h
  have HRES := Lib.hid (show svM c.z b e P s = moreM e P ((sgM c.z b s).l.length + 1) (sgM c.z b s) [] from rfl)
  generalize svM c.z b e P s = RES at *
  generalize sgM c.z b s = s1 at *
  have HH := Lib.hid h
  have HPP := Lib.hid hP
  have HLS := Lib.hid hless
  have hN := h.hN
  have hRN := h.hR
  clear h hP hless
  go_enter Tryz.func130, Tryz.ntmps130
  go_wp2_with fail
  refine HM.mono ?_
  rintro ee w1 ⟨rfl, hp1⟩
  have hl1 := hp1.1.len
  have HP1 := Lib.hid hp1
  have HL1 := Lib.hid hl1
  clear hp1 HM hl1
  go_wp2_with fail
  go_loopg [9] (s1.l.length + 1) (fun j v9 wr => SevRel (SelE f) c k w 41 7 e P RES j v9 wr)
  case atStart => exact ⟨s1, [], [], HP1.out, fun _ => Nat.lt_succ_self _, fun _ => by simpa using HL1.out, by decide, .nil, HRES.out.symm⟩
  case round =>
    obtain ⟨s2, xs, cs, hp2, hj, hx0, hx1, hrow, hres⟩ := hrel
    clear HP1 HL1 HRES
    obtain ⟨m, p, hbk, -, -, -⟩ := hp2.1.bk
    obtain ⟨-, -, -, -, c4, -, -⟩ := prCell hbk
    have hRr := hp2.1.lt
    have hsw := hp2.2.size
    have HPW := Lib.hid hp2
    have HROW := Lib.hid hrow
    have HX1 := Lib.hid hx1
    by_cases he : s2.er = 0
    · have hj := hj he
      obtain ⟨j2, rfl⟩ : ∃ j', gk = j' + 1 := ⟨gk - 1, by omega⟩
      rw [he] at c4
      have HS := Lib.hid (show RES = if isSg e (hdT (P s2).2.l) then (xs ++ [(P s2).1], tlM (P s2).2) else moreM e P j2 (P s2).2 (xs ++ [(P s2).1]) by rw [← hres, moreM, if_pos he])
      have hless := HLS.out s2 he
      have hx0 := hx0 he
      have hC := HPP.out s2 wr hp2.1
      generalize P s2 = RV at *
      obtain ⟨x, s3⟩ := RV
      dsimp only at HS hless
      have HE := Lib.hid he
      have HLL := Lib.hid hless
      have HX0 := Lib.hid hx0
      have HJ := Lib.hid hj
      clear hres hp2 hrow hbk he hless hx0 hx1 hj
      obtain ⟨aL, cL, rfl, hcL, _⟩ := fresh_row HROW.out.own
      go_wp2_with fail
      refine hC.mono ?_
      rintro ee w2 ⟨es, hee, hE, hp3⟩
      dsimp only at hE hp3
      obtain ⟨g, hg⟩ : ∃ g, f = g + 1 := by
        cases f with
        | zero => exact hE.elim
        | succ g => exact ⟨g, rfl⟩
      rw [hg] at hE
      obtain ⟨hz1, va, vd, vs, rfl, ha1, hd1, hs1⟩ := hE
      have hE' : (SelE f) w2 (fun b => wr.heap.size ≤ b ∧ b < w2.heap.size) x [.int .i64 (x.k : Int), .string ⟨x.al.toArray⟩, .string ⟨x.nm.toArray⟩, .string ⟨x.on_.toArray⟩, va, vd, vs] := (by rw [hg]; exact ⟨hz1, va, vd, vs, rfl, ha1, hd1, hs1⟩)
      obtain ⟨aa, ca, rfl⟩ := ha1.shape
      obtain ⟨ad, cd, rfl⟩ := hd1.shape
      obtain ⟨as7, cs7, rfl⟩ := hs1.shape
      clear ha1 hd1 hs1
      have hee : ee = .returned (.agg #[.int .i64 (x.k : Int), .string ⟨x.al.toArray⟩, .string ⟨x.nm.toArray⟩, .string ⟨x.on_.toArray⟩, .slice aa x.args.length ca, .slice ad x.dirs.length cd, .slice as7 x.sels.length cs7]) := hee
      subst hee
      have HPR := Lib.hid (rec_new w2 7 #[.int .i64 (x.k : Int), .string ⟨x.al.toArray⟩, .string ⟨x.nm.toArray⟩, .string ⟨x.on_.toArray⟩, .slice aa x.args.length ca, .slice ad x.dirs.length cd, .slice as7 x.sels.length cs7] 41)
      have HONE := Lib.hid (((selOk f)).one hE')
      have hA := HROW.out.app (selOk f) hN HPW.out hp3 hE' (.cells #[.int .i64 (x.k : Int), .string ⟨x.al.toArray⟩, .string ⟨x.nm.toArray⟩, .string ⟨x.on_.toArray⟩, .slice aa x.args.length ca, .slice ad x.dirs.length cd, .slice as7 x.sels.length cs7] 41 (0, 0))
      have HA := Lib.hid hA
      have HOW := Lib.hid hA.1.own
      have HZ := Lib.hid (show w.heap.size ≤ (w2.alloc (.cells #[.int .i64 (x.k : Int), .string ⟨x.al.toArray⟩, .string ⟨x.nm.toArray⟩, .string ⟨x.on_.toArray⟩, .slice aa x.args.length ca, .slice ad x.dirs.length cd, .slice as7 x.sels.length cs7] 41 (0, 0))).heap.size by rw [hA.2.2]; have := hp3.2.size; omega)
      have HZ2 := Lib.hid hA.2.2
      have HP3 := Lib.hid hp3
      clear hp3 hE' hA hC
      have hxm : xs.length ≤ 1000 := by have := HX1.out; omega
      go_wp2_with (at_builtin; refine wpList_append_lies _ rfl _ _ 35 rfl w.heap.size 41 i2 (.agg #[.int .i64 0, .string ⟨#[]⟩, .string ⟨#[]⟩, .string ⟨#[]⟩, .slice none 0 0, .slice none 0 0, .slice none 0 0]) 7 128 Tryz.underlying35 hi2 hz20 hz21 hz22 rfl (by decide) (.slice aL xs.length cL) xs.length cs rfl HOW.out ⟨w2.heap.size, 0, none⟩ 1 1 [.int .i64 (x.k : Int), .string ⟨x.al.toArray⟩, .string ⟨x.nm.toArray⟩, .string ⟨x.on_.toArray⟩, .slice aa x.args.length ca, .slice ad x.dirs.length cd, .slice as7 x.sels.length cs7] rfl rfl HPR.out HONE.out (by decide) (by unfold maxLen; omega) (by omega) HZ.out (w2.heap.size + 1) HZ2.out ?_)
      intro g8 cap8 w8 hown8 hg8 hlie8 hl8
      obtain ⟨hrow8, hp8⟩ := app_done (selOk f) HPW.out HP3.out HA.out hN hown8 hg8 (by
        rcases hlie8 with ea | ea
        · exact .inl ea.symm
        · exact .inr (by rw [HZ2.out, ea]; rfl))
      have HT := pTakeSign_any e w8 hp8.1
      have HR8 := Lib.hid hrow8
      have HP8 := Lib.hid hp8
      clear hown8 hg8 hlie8 hrow8 hp8 HPR HONE HA HOW HZ HZ2 HP3
      cases hi : isSg e (hdT s3.l) with
      | true =>
        rw [hi] at HT HS
        simp only [reduceIte] at HT HS
        clear hi
        go_wp2_with fail
        refine HT.mono ?_
        rintro ee w9 ⟨rfl, hp9⟩
        have HP9 := Lib.hid hp9
        clear hp9 HT
        go_wp2_with fail
        go_ret
        rw [HS.out]
        exact ⟨_, rfl, (HR8.out.call (selOk f) hN hRN HP8.out HP9.out).done (selOk f) (by rw [List.length_append, List.length_singleton]; omega), HP8.out.trans HP9.out⟩
      | false =>
        rw [hi] at HT HS
        simp only [reduceIte, Bool.false_eq_true] at HT HS
        clear hi
        go_wp2_with fail
        refine HT.mono ?_
        rintro ee w9 ⟨rfl, hp9⟩
        have HP9 := Lib.hid hp9
        clear hp9 HT
        go_wp2_with fail
        go_roundg j2
        case measure => omega
        case rel => exact sevRel_next (HR8.out.call (selOk f) hN hRN HP8.out HP9.out) (HP8.out.trans HP9.out) HE.out HLL.out HX0.out HJ.out HS.out
    · have hne : ((s2.er : Int) == 0) = false := by rw [beq_eq_false_iff_ne]; omega
      have HS := Lib.hid (show RES = (xs, s2) by rw [← hres, moreM_bad e P he])
      obtain ⟨aL, cL, rfl, hcL, _⟩ := fresh_row HROW.out.own
      clear hres hp2 hrow hbk he hx0 hx1 hj
      go_wp2_with fail
      go_ret
      rw [HS.out]
      exact ⟨_, rfl, HROW.out.done (selOk f) (by have := HX1.out; omega), HPW.out⟩

end Go.Proofs.YtibkncgfdhflgaaGreatDoor

/-
  doc's parser: a selection, a selection set.
-/
namespace Go.Proofs.YtibkncgfdhflgaaGreatDoor
open Go.RowKit

theorem sel_boxed {c : Cx} {k k2 f : Nat} {w W w5 : World} {s s5 : Ms} {x : SelT} {z0 z1 z2 z3 z4 z5 z6 c0 c1 c2 c3 c4 c5 c6 : Value} {T : TypeId} (h : Lb c k w T #[z0, z1, z2, z3, z4, z5, z6] s W) (p5 : Pw c k2 s5 W w5) (hE : SelE (f + 1) w5 (fun b => W.heap.size ≤ b ∧ b < w5.heap.size) x [c0, c1, c2, c3, c4, c5, c6]) :
    (((((((w5.setCell ⟨w.heap.size, 0, none⟩ c0).setCell ⟨w.heap.size, 1, none⟩ c1).setCell ⟨w.heap.size, 2, none⟩ c2).setCell ⟨w.heap.size, 3, none⟩ c3).setCell ⟨w.heap.size, 4, none⟩ c4).setCell ⟨w.heap.size, 5, none⟩ c5).setCell ⟨w.heap.size, 6, none⟩ c6).heap[w.heap.size]? = some (.cells #[c0, c1, c2, c3, c4, c5, c6] T (0, 0)) ∧
    SelE (f + 1) (((((((w5.setCell ⟨w.heap.size, 0, none⟩ c0).setCell ⟨w.heap.size, 1, none⟩ c1).setCell ⟨w.heap.size, 2, none⟩ c2).setCell ⟨w.heap.size, 3, none⟩ c3).setCell ⟨w.heap.size, 4, none⟩ c4).setCell ⟨w.heap.size, 5, none⟩ c5).setCell ⟨w.heap.size, 6, none⟩ c6) (fun b => w.heap.size ≤ b ∧ b < (((((((w5.setCell ⟨w.heap.size, 0, none⟩ c0).setCell ⟨w.heap.size, 1, none⟩ c1).setCell ⟨w.heap.size, 2, none⟩ c2).setCell ⟨w.heap.size, 3, none⟩ c3).setCell ⟨w.heap.size, 4, none⟩ c4).setCell ⟨w.heap.size, 5, none⟩ c5).setCell ⟨w.heap.size, 6, none⟩ c6).heap.size) x [c0, c1, c2, c3, c4, c5, c6] ∧
    Pw c k2 s5 w (((((((w5.setCell ⟨w.heap.size, 0, none⟩ c0).setCell ⟨w.heap.size, 1, none⟩ c1).setCell ⟨w.heap.size, 2, none⟩ c2).setCell ⟨w.heap.size, 3, none⟩ c3).setCell ⟨w.heap.size, 4, none⟩ c4).setCell ⟨w.heap.size, 5, none⟩ c5).setCell ⟨w.heap.size, 6, none⟩ c6) := by
  have L5 := (h.call p5).fin7 c0 c1 c2 c3 c4 c5 c6
  have hs := h.sz
  refine ⟨L5.h0, (selOk (f + 1)).step (fun b hd => ⟨by omega, by rw [seven_size]; exact hd.2⟩) (fun b o hd => World.cell?_of_block (a := ⟨b, o, none⟩) (seven_other _ _ b (by omega) _ _ _ _ _ _ _)) hE, L5.p⟩

set_option maxHeartbeats 8000000 in
set_option maxRecDepth 100000 in
theorem pSel_any {c : Cx} {k f : Nat} {s : Ms} (w : World) (h : Pv c k s w) (ih : SetOk c k f) : Calls Tryz.prog 131 #[.pointer (some ⟨c.R, 0, none⟩)] w (RecAns (SelE (f + 1)) c k w (slM c.z (setM c.z f) s)) := by
  have L0 := Lb.new h 41 #[.int .i64 0, .string ⟨#[]⟩, .string ⟨#[]⟩, .string ⟨#[]⟩, .slice none 0 0, .slice none 0 0, .slice none 0 0]
  have HL0 := Lib.hid L0
  have HC1 := pTakeSign_any dotS _ L0.p.1
  have HM := Lib.hid (show slM c.z (setM c.z f) s = if isSg dotS (hdT s.l) then (if (hdT (tlM s).l).k == 1 && !isWd onS (hdT (tlM s).l) then spM c.z (tlM s) else inM c.z (setM c.z f) (tlM s)) else fiM c.z (setM c.z f) s from rfl)
  generalize slM c.z (setM c.z f) s = RES at *
  have HI := Lib.hid ih
  clear L0 h ih
  cases hi : isSg dotS (hdT s.l) with
  | false =>
    rw [hi] at HC1 HM
    simp only [reduceIte, Bool.false_eq_true] at HC1 HM
    clear hi
    go_enter Tryz.func131, Tryz.ntmps131
    go_wp2_with fail
    refine HC1.mono ?_
    rintro e w1 ⟨rfl, p1⟩
    have L1 := HL0.out.call p1
    have HLX := Lib.hid L1
    have HCALL := pField_any (f := f) w1 L1.p.1 HI.out
    generalize fiM c.z (setM c.z f) s = RV at *
    obtain ⟨x, s5⟩ := RV
    clear p1 L1 HC1 HL0
    go_wp2_with fail
    refine HCALL.mono ?_
    rintro e w5 ⟨es, hee, hE, p5⟩
    obtain ⟨hz1, va, vd, vs, rfl, ha1, hd1, hs1⟩ := hE
    obtain ⟨aa, ca, rfl⟩ := ha1.shape
    obtain ⟨ad, cd, rfl⟩ := hd1.shape
    obtain ⟨as7, cs7, rfl⟩ := hs1.shape
    have hE' : SelE (f + 1) w5 (fun b => w1.heap.size ≤ b ∧ b < w5.heap.size) x [.int .i64 (x.k : Int), .string ⟨x.al.toArray⟩, .string ⟨x.nm.toArray⟩, .string ⟨x.on_.toArray⟩, .slice aa x.args.length ca, .slice ad x.dirs.length cd, .slice as7 x.sels.length cs7] := ⟨hz1, _, _, _, rfl, ha1, hd1, hs1⟩
    have hee : e = .returned (.agg #[.int .i64 (x.k : Int), .string ⟨x.al.toArray⟩, .string ⟨x.nm.toArray⟩, .string ⟨x.on_.toArray⟩, .slice aa x.args.length ca, .slice ad x.dirs.length cd, .slice as7 x.sels.length cs7]) := hee
    subst hee
    have L5 := HLX.out.call p5
    have HX := Lib.hid (sel_boxed HLX.out p5 hE')
    obtain ⟨a0, a1, a2, a3, a4, a5, a6, af, al2⟩ := blk7 L5.h0
    obtain ⟨f0, f1, f2, f3, f4, f5, f6, -, -⟩ := blk7 HX.out.1
    have HF := Lib.hid (And.intro f0 (And.intro f1 (And.intro f2 (And.intro f3 (And.intro f4 (And.intro f5 f6))))))
    clear p5 L5 HCALL HLX hE' ha1 hd1 hs1 f0 f1 f2 f3 f4 f5 f6
    go_wp2_with fail
    obtain ⟨f0, f1, f2, f3, f4, f5, f6⟩ := HF.out
    refine bodyPost_ret (v := .agg #[.int .i64 (x.k : Int), .string ⟨x.al.toArray⟩, .string ⟨x.nm.toArray⟩, .string ⟨x.on_.toArray⟩, .slice aa x.args.length ca, .slice ad x.dirs.length cd, .slice as7 x.sels.length cs7]) (by simp [results, Tryz.results131, go_sem, f0, f1, f2, f3, f4, f5, f6]) rfl ?_
    rw [HM.out]
    exact ⟨[.int .i64 (x.k : Int), .string ⟨x.al.toArray⟩, .string ⟨x.nm.toArray⟩, .string ⟨x.on_.toArray⟩, .slice aa x.args.length ca, .slice ad x.dirs.length cd, .slice as7 x.sels.length cs7], rfl, HX.out.2.1, HX.out.2.2⟩
  | true =>
    rw [hi] at HC1 HM
    simp only [reduceIte] at HC1 HM
    clear hi
    have HNM := Lib.hid (fun W (h' : Pv c k (tlM s) W) => pName_any W h')
    have HWD := Lib.hid (fun W (h' : Pv c k (tlM s) W) => pWord_any onS W h')
    generalize tlM s = s1 at *
    cases hn : ((hdT s1.l).k == 1) with
    | false =>
      rw [hn, Bool.false_and] at HM
      simp only [reduceIte, Bool.false_eq_true] at HM
      go_enter Tryz.func131, Tryz.ntmps131
      go_wp2_with fail
      refine HC1.mono ?_
      rintro e w1 ⟨rfl, p1⟩
      have L1 := HL0.out.call p1
      have HL1 := Lib.hid L1
      have HC2 := HNM.out w1 L1.p.1
      rw [hn] at HC2
      clear p1 L1 HC1 HL0 hn
      go_wp2_with fail
      refine HC2.mono ?_
      rintro e w2 ⟨rfl, hb2⟩
      have L2 := HL1.out.below hb2
      have HLX := Lib.hid L2
      have HCALL := pInline_any (f := f) w2 L2.p.1 HI.out
      generalize inM c.z (setM c.z f) s1 = RV at *
      obtain ⟨x, s5⟩ := RV
      clear hb2 L2 HC2 HL1
      go_wp2_with fail
      refine HCALL.mono ?_
      rintro e w5 ⟨es, hee, hE, p5⟩
      obtain ⟨hz1, va, vd, vs, rfl, ha1, hd1, hs1⟩ := hE
      obtain ⟨aa, ca, rfl⟩ := ha1.shape
      obtain ⟨ad, cd, rfl⟩ := hd1.shape
      obtain ⟨as7, cs7, rfl⟩ := hs1.shape
      have hE' : SelE (f + 1) w5 (fun b => w2.heap.size ≤ b ∧ b < w5.heap.size) x [.int .i64 (x.k : Int), .string ⟨x.al.toArray⟩, .string ⟨x.nm.toArray⟩, .string ⟨x.on_.toArray⟩, .slice aa x.args.length ca, .slice ad x.dirs.length cd, .slice as7 x.sels.length cs7] := ⟨hz1, _, _, _, rfl, ha1, hd1, hs1⟩
      have hee : e = .returned (.agg #[.int .i64 (x.k : Int), .string ⟨x.al.toArray⟩, .string ⟨x.nm.toArray⟩, .string ⟨x.on_.toArray⟩, .slice aa x.args.length ca, .slice ad x.dirs.length cd, .slice as7 x.sels.length cs7]) := hee
      subst hee
      have L5 := HLX.out.call p5
      have HX := Lib.hid (sel_boxed HLX.out p5 hE')
      obtain ⟨a0, a1, a2, a3, a4, a5, a6, af, al2⟩ := blk7 L5.h0
      obtain ⟨f0, f1, f2, f3, f4, f5, f6, -, -⟩ := blk7 HX.out.1
      have HF := Lib.hid (And.intro f0 (And.intro f1 (And.intro f2 (And.intro f3 (And.intro f4 (And.intro f5 f6))))))
      clear p5 L5 HCALL HLX hE' ha1 hd1 hs1 f0 f1 f2 f3 f4 f5 f6
      go_wp2_with fail
      obtain ⟨f0, f1, f2, f3, f4, f5, f6⟩ := HF.out
      refine bodyPost_ret (v := .agg #[.int .i64 (x.k : Int), .string ⟨x.al.toArray⟩, .string ⟨x.nm.toArray⟩, .string ⟨x.on_.toArray⟩, .slice aa x.args.length ca, .slice ad x.dirs.length cd, .slice as7 x.sels.length cs7]) (by simp [results, Tryz.results131, go_sem, f0, f1, f2, f3, f4, f5, f6]) rfl ?_
      rw [HM.out]
      exact ⟨[.int .i64 (x.k : Int), .string ⟨x.al.toArray⟩, .string ⟨x.nm.toArray⟩, .string ⟨x.on_.toArray⟩, .slice aa x.args.length ca, .slice ad x.dirs.length cd, .slice as7 x.sels.length cs7], rfl, HX.out.2.1, HX.out.2.2⟩
    | true =>
      rw [hn, Bool.true_and] at HM
      cases ho : isWd onS (hdT s1.l) with
      | true =>
        rw [ho] at HM
        simp only [reduceIte, Bool.not_true, Bool.false_eq_true] at HM
        go_enter Tryz.func131, Tryz.ntmps131
        go_wp2_with fail
        refine HC1.mono ?_
        rintro e w1 ⟨rfl, p1⟩
        have L1 := HL0.out.call p1
        have HL1 := Lib.hid L1
        have HC2 := HNM.out w1 L1.p.1
        rw [hn] at HC2
        clear p1 L1 HC1 HL0 hn
        go_wp2_with fail
        refine HC2.mono ?_
        rintro e w2 ⟨rfl, hb2⟩
        have L2 := HL1.out.below hb2
        have HL2 := Lib.hid L2
        have HC3 := HWD.out w2 L2.p.1
        rw [ho] at HC3
        clear hb2 L2 HC2 HL1 ho
        go_wp2_with fail
        refine HC3.mono ?_
        rintro e w3 ⟨rfl, hb3⟩
        have L3 := HL2.out.below hb3
        have HLX := Lib.hid L3
        have HCALL := pInline_any (f := f) w3 L3.p.1 HI.out
        generalize inM c.z (setM c.z f) s1 = RV at *
        obtain ⟨x, s5⟩ := RV
        clear hb3 L3 HC3 HL2
        go_wp2_with fail
        refine HCALL.mono ?_
        rintro e w5 ⟨es, hee, hE, p5⟩
        obtain ⟨hz1, va, vd, vs, rfl, ha1, hd1, hs1⟩ := hE
        obtain ⟨aa, ca, rfl⟩ := ha1.shape
        obtain ⟨ad, cd, rfl⟩ := hd1.shape
        obtain ⟨as7, cs7, rfl⟩ := hs1.shape
        have hE' : SelE (f + 1) w5 (fun b => w3.heap.size ≤ b ∧ b < w5.heap.size) x [.int .i64 (x.k : Int), .string ⟨x.al.toArray⟩, .string ⟨x.nm.toArray⟩, .string ⟨x.on_.toArray⟩, .slice aa x.args.length ca, .slice ad x.dirs.length cd, .slice as7 x.sels.length cs7] := ⟨hz1, _, _, _, rfl, ha1, hd1, hs1⟩
        have hee : e = .returned (.agg #[.int .i64 (x.k : Int), .string ⟨x.al.toArray⟩, .string ⟨x.nm.toArray⟩, .string ⟨x.on_.toArray⟩, .slice aa x.args.length ca, .slice ad x.dirs.length cd, .slice as7 x.sels.length cs7]) := hee
        subst hee
        have L5 := HLX.out.call p5
        have HX := Lib.hid (sel_boxed HLX.out p5 hE')
        obtain ⟨a0, a1, a2, a3, a4, a5, a6, af, al2⟩ := blk7 L5.h0
        obtain ⟨f0, f1, f2, f3, f4, f5, f6, -, -⟩ := blk7 HX.out.1
        have HF := Lib.hid (And.intro f0 (And.intro f1 (And.intro f2 (And.intro f3 (And.intro f4 (And.intro f5 f6))))))
        clear p5 L5 HCALL HLX hE' ha1 hd1 hs1 f0 f1 f2 f3 f4 f5 f6
        go_wp2_with fail
        obtain ⟨f0, f1, f2, f3, f4, f5, f6⟩ := HF.out
        refine bodyPost_ret (v := .agg #[.int .i64 (x.k : Int), .string ⟨x.al.toArray⟩, .string ⟨x.nm.toArray⟩, .string ⟨x.on_.toArray⟩, .slice aa x.args.length ca, .slice ad x.dirs.length cd, .slice as7 x.sels.length cs7]) (by simp [results, Tryz.results131, go_sem, f0, f1, f2, f3, f4, f5, f6]) rfl ?_
        rw [HM.out]
        exact ⟨[.int .i64 (x.k : Int), .string ⟨x.al.toArray⟩, .string ⟨x.nm.toArray⟩, .string ⟨x.on_.toArray⟩, .slice aa x.args.length ca, .slice ad x.dirs.length cd, .slice as7 x.sels.length cs7], rfl, HX.out.2.1, HX.out.2.2⟩
      | false =>
        rw [ho] at HM
        simp only [reduceIte, Bool.not_false] at HM
        go_enter Tryz.func131, Tryz.ntmps131
        go_wp2_with fail
        refine HC1.mono ?_
        rintro e w1 ⟨rfl, p1⟩
        have L1 := HL0.out.call p1
        have HL1 := Lib.hid L1
        have HC2 := HNM.out w1 L1.p.1
        rw [hn] at HC2
        clear p1 L1 HC1 HL0 hn
        go_wp2_with fail
        refine HC2.mono ?_
        rintro e w2 ⟨rfl, hb2⟩
        have L2 := HL1.out.below hb2
        have HL2 := Lib.hid L2
        have HC3 := HWD.out w2 L2.p.1
        rw [ho] at HC3
        clear hb2 L2 HC2 HL1 ho
        go_wp2_with fail
        refine HC3.mono ?_
        rintro e w3 ⟨rfl, hb3⟩
        have L3 := HL2.out.below hb3
        have HLX := Lib.hid L3
        have HCALL := pSpread_any (f := f) w3 L3.p.1
        generalize spM c.z s1 = RV at *
        obtain ⟨x, s5⟩ := RV
        clear hb3 L3 HC3 HL2
        go_wp2_with fail
        refine HCALL.mono ?_
        rintro e w5 ⟨es, hee, hE, p5⟩
        obtain ⟨hz1, va, vd, vs, rfl, ha1, hd1, hs1⟩ := hE
        obtain ⟨aa, ca, rfl⟩ := ha1.shape
        obtain ⟨ad, cd, rfl⟩ := hd1.shape
        obtain ⟨as7, cs7, rfl⟩ := hs1.shape
        have hE' : SelE (f + 1) w5 (fun b => w3.heap.size ≤ b ∧ b < w5.heap.size) x [.int .i64 (x.k : Int), .string ⟨x.al.toArray⟩, .string ⟨x.nm.toArray⟩, .string ⟨x.on_.toArray⟩, .slice aa x.args.length ca, .slice ad x.dirs.length cd, .slice as7 x.sels.length cs7] := ⟨hz1, _, _, _, rfl, ha1, hd1, hs1⟩
        have hee : e = .returned (.agg #[.int .i64 (x.k : Int), .string ⟨x.al.toArray⟩, .string ⟨x.nm.toArray⟩, .string ⟨x.on_.toArray⟩, .slice aa x.args.length ca, .slice ad x.dirs.length cd, .slice as7 x.sels.length cs7]) := hee
        subst hee
        have L5 := HLX.out.call p5
        have HX := Lib.hid (sel_boxed HLX.out p5 hE')
        obtain ⟨a0, a1, a2, a3, a4, a5, a6, af, al2⟩ := blk7 L5.h0
        obtain ⟨f0, f1, f2, f3, f4, f5, f6, -, -⟩ := blk7 HX.out.1
        have HF := Lib.hid (And.intro f0 (And.intro f1 (And.intro f2 (And.intro f3 (And.intro f4 (And.intro f5 f6))))))
        clear p5 L5 HCALL HLX hE' ha1 hd1 hs1 f0 f1 f2 f3 f4 f5 f6
        go_wp2_with fail
        obtain ⟨f0, f1, f2, f3, f4, f5, f6⟩ := HF.out
        refine bodyPost_ret (v := .agg #[.int .i64 (x.k : Int), .string ⟨x.al.toArray⟩, .string ⟨x.nm.toArray⟩, .string ⟨x.on_.toArray⟩, .slice aa x.args.length ca, .slice ad x.dirs.length cd, .slice as7 x.sels.length cs7]) (by simp [results, Tryz.results131, go_sem, f0, f1, f2, f3, f4, f5, f6]) rfl ?_
        rw [HM.out]
        exact ⟨[.int .i64 (x.k : Int), .string ⟨x.al.toArray⟩, .string ⟨x.nm.toArray⟩, .string ⟨x.on_.toArray⟩, .slice aa x.args.length ca, .slice ad x.dirs.length cd, .slice as7 x.sels.length cs7], rfl, HX.out.2.1, HX.out.2.2⟩

/-! ### sets -/
theorem onM_fwd (z : Nat) (s : Ms) : Fwd s (onM z s).2 := by
  unfold onM
  split
  · exact (Fwd.trans ⟨tl_le s, id⟩ (nmM_eats z _).fwd)
  · exact .refl s
theorem alM_fwd (z : Nat) (n : Nm × Ms) : Fwd n.2 (alM z n).2 := by
  unfold alM
  split
  · exact (Fwd.trans ⟨tl_le n.2, id⟩ (nmM_eats z _).fwd)
  · exact .refl _
theorem ssM_fwd {S : Ms → List SelT × Ms} (hS : ∀ s, Fwd s (S s).2) (s : Ms) : Fwd s (ssM S s).2 := by
  unfold ssM
  split
  · exact hS s
  · exact .refl s
theorem slM_eats (z : Nat) {S : Ms → List SelT × Ms} (hS : ∀ s, Fwd s (S s).2) (s : Ms) : Eats s (slM z S s).2 := by
  unfold slM
  split
  · rename_i h
    have h1 := tl_eats (sgT_k h)
    split
    · exact h1.then ((nmM_eats z _).fwd.trans (dirM_fwd z _))
    · exact h1.then (((onM_fwd z _).trans (dirM_fwd z _)).trans (hS _))
  · exact (nmM_eats z s).then ((((alM_fwd z _).trans (asM_fwd z _)).trans (dirM_fwd z _)).trans (ssM_fwd hS _))
theorem setM_eats (z : Nat) : ∀ (f : Nat) (s : Ms), Eats s (setM z f s).2
  | 0, s => by
    have h2 : Fwd s (if isSg [123] (hdT s.l) then failM z 4 s else s) := by
      split
      · exact (fail_eats z (by decide) s).fwd
      · exact .refl s
    exact h2.then (sgM_eats z [123] _)
  | f + 1, s => svM_eats z _ _ (fun s => (slM_eats z (fun s => (setM_eats z f s).fwd) s).fwd) s

theorem Pv.sets {c : Cx} {k : Nat} {s : Ms} {w : World} (h : Pv c k s w) (k' : Nat) (hk : k' ≤ 100) : Pw c k' s w (w.setCell ⟨c.R, 3, none⟩ (.int .i64 (k' : Int))) := by
  obtain ⟨m, p, hbk, hp, hm, hl⟩ := h.bk
  refine ⟨h.turn (m := m) (p := p) ?_ hp hm hl h.bad hk (fun b _ hb => Below.heap_setCell _ _ _ _ hb) (by simpa [World.setCell] using h.hN), (Aw.refl _ _ _).set _⟩
  rw [Lib.heap_setCell_same hbk]; rfl
theorem Pv.cell3 {c : Cx} {k : Nat} {s : Ms} {w : World} (h : Pv c k s w) : w.cell? ⟨c.R, 3, none⟩ = some (.int .i64 (k : Int)) ∧ (∀ j, w.frozen? ⟨c.R, j, none⟩ = false) := by
  obtain ⟨m, p, hbk, -, -, -⟩ := h.bk
  obtain ⟨-, -, -, c3, -, -, fz⟩ := prCell hbk
  exact ⟨c3, fz⟩

set_option maxHeartbeats 8000000 in
set_option maxRecDepth 100000 in
theorem pSet_tail {c : Cx} {k f : Nat} {s1 : Ms} (w W : World) (h : Pw c k s1 w W) (RES : List SelT × Ms) (hk : k ≤ 12) (HV : ∀ W', Pv c (k + 1) s1 W' → Calls Tryz.prog 130 #[.pointer (some ⟨c.R, 0, none⟩), .string ⟨#[123]⟩, .func (.func 131) #[.pointer (some ⟨c.R, 0, none⟩)] #[], .string ⟨#[125]⟩] W' (RowAns (SelE f) 7 c (k + 1) W' RES)) :
    Pw c (k + 1) s1 w (W.setCell ⟨c.R, 3, none⟩ (.int .i64 ((k : Int) + 1))) ∧ Calls Tryz.prog 130 #[.pointer (some ⟨c.R, 0, none⟩), .string ⟨#[123]⟩, .func (.func 131) #[.pointer (some ⟨c.R, 0, none⟩)] #[], .string ⟨#[125]⟩] (W.setCell ⟨c.R, 3, none⟩ (.int .i64 ((k : Int) + 1))) (RowAns (SelE f) 7 c (k + 1) (W.setCell ⟨c.R, 3, none⟩ (.int .i64 ((k : Int) + 1))) RES) := by
  have h1 := h.1.sets (k + 1) (by omega)
  rw [show ((k + 1 : Nat) : Int) = (k : Int) + 1 by omega] at h1
  exact ⟨h.trans h1, HV _ h1.1⟩
/-- The row that several hands back, where the sets are counted down. -/
theorem set_done {c : Cx} {k f : Nat} {s1 s2 : Ms} {w W w2 : World} {xs : List SelT} {v : Value} (hW : Pw c (k + 1) s1 w W) (hk : k ≤ 12) (hR : RowD (SelE f) 7 w2 (fun b => W.heap.size ≤ b ∧ b < w2.heap.size) xs v) (hp : Pw c (k + 1) s2 W w2) :
    RowAns (SelE f) 7 c k w (xs, s2) (.returned v) (w2.setCell ⟨c.R, 3, none⟩ (.int .i64 (k : Int))) := by
  have h2 := hW.trans hp
  have h3 := hp.1.sets k (by omega)
  have hs : (w2.setCell ⟨c.R, 3, none⟩ (.int .i64 (k : Int))).heap.size = w2.heap.size := by simp [World.setCell]
  have hz := hW.2.size
  have hN := hW.1.hN
  have hRN := hW.1.hR
  refine ⟨v, rfl, RowD.step (selOk f) (fun b hd => ⟨by omega, by rw [hs]; exact hd.2⟩) (fun b o hd => World.cell?_of_block (a := ⟨b, o, none⟩) (Below.heap_setCell _ _ _ _ (by show b ≠ c.R; omega))) hR, h2.trans h3⟩

set_option maxHeartbeats 4000000 in
set_option maxRecDepth 100000 in
/-- Where the first sign does not stand, no part is asked for. -/
theorem sevSelNone_any {c : Cx} {k f : Nat} {s : Ms} (b e : List UInt8) (w : World) (h : Pv c k s w) (hbad : (sgM c.z b s).er ≠ 0) :
    Calls Tryz.prog 130 #[.pointer (some ⟨c.R, 0, none⟩), .string ⟨b.toArray⟩, .func (.func 131) #[.pointer (some ⟨c.R, 0, none⟩)] #[], .string ⟨e.toArray⟩] w (RowAns (SelE f) 7 c k w ([], sgM c.z b s)) := by
  have HM := pMust_any b w h
  generalize sgM c.z b s = s1 at *
  have HH := Lib.hid h
  have HBD := Lib.hid hbad
  clear h hbad
  go_enter Tryz.func130, Tryz.ntmps130
  go_wp2_with fail
  refine HM.mono ?_
  rintro ee w1 ⟨rfl, hp1⟩
  have HP1 := Lib.hid hp1
  clear hp1 HM
  go_wp2_with fail
  go_loopg [9] 1 (fun _ v9 wr => v9 = .slice none 0 0 ∧ Pw c k s1 w wr)
  case atStart => exact ⟨rfl, HP1.out⟩
  case round =>
    obtain ⟨rfl, hp2⟩ := hrel
    obtain ⟨m, p, hbk, -, -, -⟩ := hp2.1.bk
    obtain ⟨-, -, -, -, c4, -, -⟩ := prCell hbk
    have hRr := hp2.1.lt
    have HPW := Lib.hid hp2
    have hne : ((s1.er : Int) == 0) = false := by have := HBD.out; rw [beq_eq_false_iff_ne]; omega
    clear hp2 hbk HP1
    go_wp2_with fail
    go_ret
    exact ⟨_, rfl, .nil, HPW.out⟩

set_option maxHeartbeats 8000000 in
set_option maxRecDepth 100000 in
theorem pSet_any {c : Cx} : ∀ (f k : Nat), k + f = 12 → SetOk c k f
  | 0, k, hkf => by
    intro s w h
    obtain rfl : k = 12 := by omega
    have HS := pSign_any [123] w h
    have HM := Lib.hid (show setM c.z 0 s = ([], sgM c.z [123] (if isSg [123] (hdT s.l) then failM c.z 4 s else s)) from rfl)
    obtain ⟨c3, fz⟩ := h.cell3
    rw [show ((12 : Nat) : Int) = 12 from rfl] at c3
    have hRlt := h.lt
    generalize setM c.z 0 s = RES at *
    have HH := Lib.hid h
    have e12 : ((12 : Int) == 12) = true := by decide
    have hw1 : IntKind.i64.wrap ((12 : Int) + 1) = 13 := by decide
    have hw2 : IntKind.i64.wrap ((13 : Int) - 1) = 12 := by decide
    cases hi : isSg [123] (hdT s.l) with
    | true =>
      rw [hi] at HS HM
      simp only [reduceIte] at HM
      have hbad : (sgM c.z [123] (failM c.z 4 s)).er ≠ 0 := (sgM_eats c.z [123] _).er (fail_er c.z (by decide) s)
      have HBAD := Lib.hid hbad
      have HV := Lib.hid (fun W' (h' : Pv c (12 + 1) (failM c.z 4 s) W') => sevSelNone_any (f := 0) [123] [125] W' h' hbad)
      clear hi hbad h
      go_enter Tryz.func90, Tryz.ntmps90
      go_wp2_with fail
      refine HS.mono ?_
      rintro e w1 ⟨rfl, hb1⟩
      have HF := pFail_any 4 w1 (HH.out.below hb1 HH.out.hN)
      have HB1 := Lib.hid hb1
      clear HS c3 fz hb1
      go_wp2_with fail
      refine HF.mono ?_
      rintro e w2 ⟨rfl, p2⟩
      have p3 := ((Pw.refl HH.out).below HB1.out).trans p2
      obtain ⟨hp1, HC⟩ := pSet_tail w w2 p3 _ (Nat.le_refl 12) HV.out
      rw [show ((12 : Nat) : Int) + 1 = 13 from rfl] at hp1 HC
      have HP1 := Lib.hid hp1
      obtain ⟨c3, fz⟩ := p2.1.cell3
      rw [show ((12 : Nat) : Int) = 12 from rfl] at c3
      have hR2 := p2.1.lt
      clear p2 p3 hp1 HF
      go_wp2_with fail
      refine HC.mono ?_
      rintro e w4 ⟨v, rfl, hR, p4⟩
      have HX := Lib.hid (set_done HP1.out (Nat.le_refl 12) hR p4)
      obtain ⟨d3, dz⟩ := p4.1.cell3
      have hR4 := p4.1.lt
      rw [show ((12 + 1 : Nat) : Int) = 13 from rfl] at d3
      obtain ⟨va, vc, rfl⟩ := hR.shape
      clear HC p4 hR c3 fz
      go_wp2_with fail
      go_ret
      rw [HM.out]
      exact HX.out
    | false =>
      rw [hi] at HS HM
      simp only [reduceIte, Bool.false_eq_true] at HM
      have hbad : (sgM c.z [123] s).er ≠ 0 := by
        unfold sgM
        rw [if_neg (by rw [hi]; decide)]
        exact fail_er c.z (by decide) s
      have HV := Lib.hid (fun W' (h' : Pv c (12 + 1) s W') => sevSelNone_any (f := 0) [123] [125] W' h' hbad)
      clear hi hbad h
      go_enter Tryz.func90, Tryz.ntmps90
      go_wp2_with fail
      refine HS.mono ?_
      rintro e w2 ⟨rfl, hb1⟩
      have p3 := (Pw.refl HH.out).below hb1
      obtain ⟨hp1, HC⟩ := pSet_tail w w2 p3 _ (Nat.le_refl 12) HV.out
      rw [show ((12 : Nat) : Int) + 1 = 13 from rfl] at hp1 HC
      have HP1 := Lib.hid hp1
      clear c3 fz
      obtain ⟨c3, fz⟩ := p3.1.cell3
      rw [show ((12 : Nat) : Int) = 12 from rfl] at c3
      have hR2 := p3.1.lt
      clear p3 hp1 HS hb1
      go_wp2_with fail
      refine HC.mono ?_
      rintro e w4 ⟨v, rfl, hR, p4⟩
      have HX := Lib.hid (set_done HP1.out (Nat.le_refl 12) hR p4)
      obtain ⟨d3, dz⟩ := p4.1.cell3
      have hR4 := p4.1.lt
      rw [show ((12 + 1 : Nat) : Int) = 13 from rfl] at d3
      obtain ⟨va, vc, rfl⟩ := hR.shape
      clear HC p4 hR c3 fz
      go_wp2_with fail
      go_ret
      rw [HM.out]
      exact HX.out
  | f + 1, k, hkf => by
    intro s w h
    have ih := pSet_any (c := c) f (k + 1) (by omega)
    have HV := fun W' (h' : Pv c (k + 1) s W') => sevSel_any (f := f + 1) [123] [125] (slM c.z (setM c.z f)) W' h' (fun s' W h2 => pSel_any W h2 ih) (fun s' _ h2 => (slM_eats c.z (fun s => (setM_eats c.z f s).fwd) s').lt h2)
    have HM := Lib.hid (show setM c.z (f + 1) s = svM c.z [123] [125] (slM c.z (setM c.z f)) s from rfl)
    have HT := pSet_tail w w (.refl h) _ (by omega) HV
    generalize svM c.z [123] [125] (slM c.z (setM c.z f)) s = RV at *
    generalize setM c.z (f + 1) s = RES at *
    obtain ⟨xs, s2⟩ := RV
    obtain ⟨hp1, HC⟩ := HT
    obtain ⟨c3, fz⟩ := h.cell3
    have hRlt := h.lt
    have hk12 : ((k : Int) == 12) = false := by rw [beq_eq_false_iff_ne]; omega
    have hkk : k ≤ 12 := by omega
    have hw1 : IntKind.i64.wrap ((k : Int) + 1) = (k : Int) + 1 := IntWalk.i64_in _ (by omega)
    have hw2 : IntKind.i64.wrap ((k : Int) + 1 - 1) = (k : Int) := by rw [show (k : Int) + 1 - 1 = (k : Int) by omega]; exact IntWalk.i64_in _ (by omega)
    have hw3 : IntKind.i64.wrap (k : Int) = (k : Int) := IntWalk.i64_in _ (by omega)
    have HP1 := Lib.hid hp1
    clear ih HV h hp1 hkf
    go_enter Tryz.func90, Tryz.ntmps90
    go_wp2_with fail
    refine HC.mono ?_
    rintro e w2 ⟨v, rfl, hR, p2⟩
    dsimp only at hR p2
    have HX := Lib.hid (set_done HP1.out hkk hR p2)
    obtain ⟨d3, dz⟩ := p2.1.cell3
    have hR2 := p2.1.lt
    rw [show ((k + 1 : Nat) : Int) = (k : Int) + 1 by omega] at d3
    obtain ⟨va, vc, rfl⟩ := hR.shape
    clear HC p2 hR c3 fz
    go_wp2_with fail
    go_ret
    rw [HM.out]
    exact HX.out

end Go.Proofs.YtibkncgfdhflgaaGreatDoor
