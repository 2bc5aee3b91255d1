/-
  doc's parser: a field.
-/
import Derived.Test.YtkfllppggjhhmaaGreatDoorMDs1
import Derived.Test.YtkfllppggjhhmaaGreatDoorMDa
namespace Go.Proofs.YtkfllppggjhhmaaGreatDoor
open Go.RowKit

set_option maxHeartbeats 8000000 in
set_option maxRecDepth 100000 in
theorem pField_any {c : Cx} {k f : Nat} {s : Ms} (w : World) (h : Pv c k s w) (ih : SetOk c k f) : Calls Tryz.prog 278 #[.pointer (some ⟨c.R, 0, none⟩)] w (RecAns (SelE (f + 1)) c k w (fiM c.z (setM c.z f) s)) := by
  have L0 := Lb.new h 49 #[.int .i64 0, .string ⟨#[]⟩, .string ⟨#[]⟩, .string ⟨#[]⟩, .slice none 0 0, .slice none 0 0, .slice none 0 0]
  have HL0 := Lib.hid L0
  have HC1 := pNm_any _ L0.p.1
  have HM := Lib.hid (show fiM c.z (setM c.z f) s = (.mk 1 (alM c.z (nmM c.z s)).1.1 (alM c.z (nmM c.z s)).1.2 [] (asM c.z (alM c.z (nmM c.z s)).2).1 (dirM c.z (asM c.z (alM c.z (nmM c.z s)).2).2).1 (ssM (setM c.z f) (dirM c.z (asM c.z (alM c.z (nmM c.z s)).2).2).2).1, (ssM (setM c.z f) (dirM c.z (asM c.z (alM c.z (nmM c.z s)).2).2).2).2) from rfl)
  have HZ := Lib.hid (nmM_size h)
  have HI := Lib.hid ih
  generalize nmM c.z s = R1 at *
  generalize fiM c.z (setM c.z f) s = RES at *
  obtain ⟨nm, s1⟩ := R1
  dsimp only at HC1 HZ
  have HO := Lib.hid (show alM c.z (nm, s1) = if isSg [58] (hdT s1.l) then ((nm, (nmM c.z (tlM s1)).1), (nmM c.z (tlM s1)).2) else (([], nm), s1) from rfl)
  generalize alM c.z (nm, s1) = RA at *
  obtain ⟨⟨al, nm2⟩, s2⟩ := RA
  dsimp only at HM
  clear L0 h ih
  go_enter Tryz.func278, Tryz.ntmps278
  go_wp2_with fail
  refine HC1.mono ?_
  rintro e w1 ⟨rfl, p1⟩
  have G1 := (HL0.out.call p1).made #[.int .i64 1, .string ⟨#[]⟩, .string ⟨nm.toArray⟩, .string ⟨#[]⟩, .slice none 0 0, .slice none 0 0, .slice none 0 0]
  have hlt := HL0.out.sz
  have hlt1 := (HL0.out.call p1).sz
  have HC2 := pTakeSign_any [58] _ G1.b.p.1
  have HG1 := Lib.hid G1
  have hbw : w1.heap.size ≠ w.heap.size := by omega
  clear p1 G1 HC1 HL0
  go_wp2_with fail
  refine HC2.mono ?_
  rintro e w2 ⟨rfl, p2⟩
  have G2 := HG1.out.call p2
  have HG2 := Lib.hid G2.1
  obtain ⟨b0, b1, b2, b3, b4, b5, b6, bf, bl⟩ := blk7 G2.1.h1
  clear p2 G2 HC2 HG1
  go_upto_if 8 with fail
  go_cut [] (fun wc => Lg c k w 49 w1.heap.size #[.int .i64 0, .string ⟨#[]⟩, .string ⟨#[]⟩, .string ⟨#[]⟩, .slice none 0 0, .slice none 0 0, .slice none 0 0] #[.int .i64 1, .string ⟨al.toArray⟩, .string ⟨nm2.toArray⟩, .string ⟨#[]⟩, .slice none 0 0, .slice none 0 0, .slice none 0 0] s2 wc ∧ al.length ≤ 2000000 ∧ nm2.length ≤ 2000000)
  case first =>
    cases hi : isSg [58] (hdT s1.l) with
    | true =>
      rw [hi] at HO HG2
      simp only [reduceIte] at HO HG2
      have T2 := HG2.out.set 1 (.string ⟨nm.toArray⟩)
      have HC3 := pNm_any _ T2.1.b.p.1
      have HZ2 := Lib.hid (nmM_size HG2.out.b.p.1)
      have HT2 := Lib.hid T2.1
      generalize nmM c.z (tlM s1) = R3 at *
      obtain ⟨nm3, s3⟩ := R3
      have ho := HO.out
      injection ho with ho1 ho2
      injection ho1 with ho1 ho3
      subst ho1 ho2 ho3
      dsimp only at HC3 HZ2
      clear hi HO HI T2
      go_wp2_with fail
      refine HC3.mono ?_
      rintro e w3 ⟨rfl, p3⟩
      have G3 := HT2.out.call p3
      have T3 := Lib.hid (G3.1.set 2 (.string ⟨nm2.toArray⟩)).1
      clear b0 b1 b2 b3 b4 b5 b6 bf bl
      obtain ⟨b0, b1, b2, b3, b4, b5, b6, bf, bl⟩ := blk7 G3.1.h1
      clear p3 G3 HC3 HT2 HG2
      go_wp2_with fail
      go_meet
      case rel => exact ⟨T3.out, HZ.out, HZ2.out⟩
    | false =>
      rw [hi] at HO HG2
      simp only [reduceIte, Bool.false_eq_true] at HO HG2
      have ho := HO.out
      injection ho with ho1 ho2
      injection ho1 with ho1 ho3
      subst ho1 ho2 ho3
      clear hi HO HI
      go_wp2_with fail
      go_meet
      case rel => exact ⟨HG2.out, by decide, HZ.out⟩
  case rest =>
    obtain ⟨G3, hz⟩ := hcut
    have HZ3 := Lib.hid hz
    have HC2 := pArgs_any _ G3.b.p.1
    have HG3 := Lib.hid G3
    clear G3 HG2 hz b0 b1 b2 b3 b4 b5 b6 bf bl HO HZ
    go_wp2_with fail
    refine HC2.mono ?_
    rintro e w3 ⟨v, rfl, hR, p3⟩
    have G4 := HG3.out.call p3
    have hd := RowD.step (D' := Dg w w1.heap.size w3) (w' := w3) argOk (dg_of HG3.out) (fun _ _ _ => rfl) hR
    generalize asM c.z s2 = RD at *
    obtain ⟨gs, s3⟩ := RD
    dsimp only at HM hd G4 hR
    obtain ⟨va, vc, rfl⟩ := hR.shape
    have T4 := G4.1.set 4 (.slice va gs.length vc)
    have HC3 := pDirs_any _ T4.1.b.p.1
    have HD4 := Lib.hid (T4.2.row argOk hd)
    have HT4 := Lib.hid T4.1
    obtain ⟨b0, b1, b2, b3, b4, b5, b6, bf, bl⟩ := blk7 G4.1.h1
    clear p3 G4 HC2 HG3 hR hd T4
    go_wp2_with fail
    refine HC3.mono ?_
    rintro e w4 ⟨v, rfl, hR, p4⟩
    have G5 := HT4.out.call p4
    have hd := RowD.step (D' := Dg w w1.heap.size w4) (w' := w4) dirOk (dg_of HT4.out) (fun _ _ _ => rfl) hR
    generalize dirM c.z s3 = RD at *
    obtain ⟨ds, s4⟩ := RD
    dsimp only at HM hd G5 hR
    obtain ⟨xa, xc, rfl⟩ := hR.shape
    have T5 := G5.1.set 5 (.slice xa ds.length xc)
    have HC4 := pSign_any [123] _ T5.1.b.p.1
    have HA5 := Lib.hid (T5.2.row argOk (G5.2.row argOk HD4.out))
    have HD5 := Lib.hid (T5.2.row dirOk hd)
    have HT5 := Lib.hid T5.1
    clear b0 b1 b2 b3 b4 b5 b6 bf bl
    obtain ⟨b0, b1, b2, b3, b4, b5, b6, bf, bl⟩ := blk7 G5.1.h1
    have HSS := Lib.hid (show ssM (setM c.z f) s4 = if isSg [123] (hdT s4.l) then setM c.z f s4 else ([], s4) from rfl)
    generalize ssM (setM c.z f) s4 = RS at *
    obtain ⟨ss, s5⟩ := RS
    dsimp only at HM
    clear p4 G5 HC3 HT4 HD4 hR hd T5
    go_wp2_with fail
    refine HC4.mono ?_
    rintro e w5 ⟨rfl, hb5⟩
    have G6 := HT5.out.below hb5
    have HA6 := Lib.hid (G6.2.row argOk HA5.out)
    have HD6 := Lib.hid (G6.2.row dirOk HD5.out)
    have HG6 := Lib.hid G6.1
    clear b0 b1 b2 b3 b4 b5 b6 bf bl
    obtain ⟨b0, b1, b2, b3, b4, b5, b6, bf, bl⟩ := blk7 G6.1.h1
    clear HC4 HT5 HA5 HD5 G6 hb5
    go_upto_if 22 with fail
    go_cut [] (fun wc => ∃ sa sc, Lg c k w 49 w1.heap.size #[.int .i64 0, .string ⟨#[]⟩, .string ⟨#[]⟩, .string ⟨#[]⟩, .slice none 0 0, .slice none 0 0, .slice none 0 0] #[.int .i64 1, .string ⟨al.toArray⟩, .string ⟨nm2.toArray⟩, .string ⟨#[]⟩, .slice va gs.length vc, .slice xa ds.length xc, .slice sa ss.length sc] s5 wc ∧ RowD ArgE 5 wc (Dg w w1.heap.size wc) gs (.slice va gs.length vc) ∧ RowD DirE 2 wc (Dg w w1.heap.size wc) ds (.slice xa ds.length xc) ∧ RowD (SelE f) 7 wc (Dg w w1.heap.size wc) ss (.slice sa ss.length sc))
    case first =>
      cases hi : isSg [123] (hdT s4.l) with
      | true =>
        rw [hi] at HSS
        simp only [reduceIte] at HSS
        have HC5 := HI.out s4 w5 HG6.out.b.p.1
        rw [← HSS.out] at HC5
        clear hi HSS HI
        go_wp2_with fail
        refine HC5.mono ?_
        rintro e w6 ⟨v, rfl, hR, p6⟩
        dsimp only at hR p6
        have G7 := HG6.out.call p6
        have hd := RowD.step (D' := Dg w w1.heap.size w6) (w' := w6) (selOk f) (dg_of HG6.out) (fun _ _ _ => rfl) hR
        obtain ⟨sa, sc, rfl⟩ := hR.shape
        have T7 := G7.1.set 6 (.slice sa ss.length sc)
        have HX := Lib.hid (show _ ∧ _ ∧ _ ∧ _ from ⟨T7.1, T7.2.row argOk (G7.2.row argOk HA6.out), T7.2.row dirOk (G7.2.row dirOk HD6.out), T7.2.row (selOk f) hd⟩)
        clear b0 b1 b2 b3 b4 b5 b6 bf bl
        obtain ⟨b0, b1, b2, b3, b4, b5, b6, bf, bl⟩ := blk7 G7.1.h1
        clear p6 G7 HC5 HG6 HA6 HD6 hR hd T7
        go_wp2_with fail
        go_meet
        case rel => exact ⟨sa, sc, HX.out⟩
      | false =>
        rw [hi] at HSS
        simp only [reduceIte, Bool.false_eq_true] at HSS
        have ho := HSS.out
        injection ho with ho1 ho2
        subst ho1 ho2
        clear hi HSS HI
        go_wp2_with fail
        go_meet
        case rel => exact ⟨none, 0, HG6.out, HA6.out, HD6.out, .nil⟩
    case rest =>
      obtain ⟨sa, sc, G8, hA, hD, hS⟩ := hcut
      have U := G8.fin7 (.int .i64 1) (.string ⟨al.toArray⟩) (.string ⟨nm2.toArray⟩) (.string ⟨#[]⟩) (.slice va gs.length vc) (.slice xa ds.length xc) (.slice sa ss.length sc)
      have HA := Lib.hid (U.2.row argOk hA)
      have HD := Lib.hid (U.2.row dirOk hD)
      have HS := Lib.hid (U.2.row (selOk f) hS)
      have HU := Lib.hid U.1
      clear b0 b1 b2 b3 b4 b5 b6 bf bl
      obtain ⟨b0, b1, b2, b3, b4, b5, b6, bf, bl⟩ := blk7 G8.h1
      obtain ⟨a0, a1, a2, a3, a4, a5, a6, af, al2⟩ := blk7 G8.b.h0
      obtain ⟨f0, f1, f2, f3, f4, f5, f6, -, -⟩ := blk7 U.1.b.h0
      have HF := Lib.hid (And.intro f0 (And.intro f1 (And.intro f2 (And.intro f3 (And.intro f4 (And.intro f5 f6))))))
      clear G8 U hA hD hS HA6 HD6 HG6 f0 f1 f2 f3 f4 f5 f6 HI HSS
      go_wp2_with fail
      obtain ⟨f0, f1, f2, f3, f4, f5, f6⟩ := HF.out
      refine bodyPost_ret (v := .agg #[.int .i64 1, .string ⟨al.toArray⟩, .string ⟨nm2.toArray⟩, .string ⟨#[]⟩, .slice va gs.length vc, .slice xa ds.length xc, .slice sa ss.length sc]) (by simp [results, Tryz.results278, go_sem, f0, f1, f2, f3, f4, f5, f6]) rfl ?_
      rw [HM.out]
      exact ⟨[.int .i64 1, .string ⟨al.toArray⟩, .string ⟨nm2.toArray⟩, .string ⟨#[]⟩, .slice va gs.length vc, .slice xa ds.length xc, .slice sa ss.length sc], rfl, (selOk (f + 1)).step dg_fin (fun _ _ _ => rfl) (SelE.one HZ3.out.1 HZ3.out.2 (by decide) HA.out HD.out HS.out), HU.out.b.p⟩

end Go.Proofs.YtkfllppggjhhmaaGreatDoor
/-
  doc's parser: one or more parts of type api.Sel.
-/
namespace Go.Proofs.YtkfllppggjhhmaaGreatDoor
open Go.RowKit

theorem infoSel : (Tryz.prog.info? 49).map (fun i => (i.zero, i.size, i.bytes)) = some (some (.agg #[.int .i64 0, .string ⟨#[]⟩, .string ⟨#[]⟩, .string ⟨#[]⟩, .slice none 0 0, .slice none 0 0, .slice none 0 0]), 7, 128) := by kernel_rfl

set_option maxHeartbeats 4000000 in
set_option maxRecDepth 100000 in
theorem sevSel_any {c : Cx} {k f : Nat} {s : Ms} (b e : List UInt8) (P : Ms → SelT × Ms) (w : World) (h : Pv c k s w) (hP : ∀ s' W, Pv c k s' W → Calls Tryz.prog 246 #[.pointer (some ⟨c.R, 0, none⟩)] W (RecAns (SelE f) c k W (P s')))
    (hless : ∀ s', s'.er = 0 → (P s').2.er = 0 → (P s').2.l.length < s'.l.length) :
    Calls Tryz.prog 245 #[.pointer (some ⟨c.R, 0, none⟩), .string ⟨b.toArray⟩, .func (.func 246) #[.pointer (some ⟨c.R, 0, none⟩)] #[], .string ⟨e.toArray⟩] w (RowAns (SelE f) 7 c k w (svM c.z b e P s)) := by
  obtain ⟨i2, hi2, hz20, hz21, hz22⟩ := info_parts infoSel
  have HM := pMust_any b w h
  have HRES := Lib.hid (show svM c.z b e P s = moreM e P ((sgM c.z b s).l.length + 1) (sgM c.z b s) [] from rfl)
  generalize svM c.z b e P s = RES at *
  generalize sgM c.z b s = s1 at *
  have HH := Lib.hid h
  have HPP := Lib.hid hP
  have HLS := Lib.hid hless
  have hN := h.hN
  have hRN := h.hR
  clear h hP hless
  go_enter Tryz.func245, Tryz.ntmps245
  go_wp2_with fail
  refine HM.mono ?_
  rintro ee w1 ⟨rfl, hp1⟩
  have hl1 := hp1.1.len
  have HP1 := Lib.hid hp1
  have HL1 := Lib.hid hl1
  clear hp1 HM hl1
  go_wp2_with fail
  go_loopg [9] (s1.l.length + 1) (fun j v9 wr => SevRel (SelE f) c k w 49 7 e P RES j v9 wr)
  case atStart => exact ⟨s1, [], [], HP1.out, fun _ => Nat.lt_succ_self _, fun _ => by simpa using HL1.out, by decide, .nil, HRES.out.symm⟩
  case round =>
    obtain ⟨s2, xs, cs, hp2, hj, hx0, hx1, hrow, hres⟩ := hrel
    clear HP1 HL1 HRES
    obtain ⟨m, p, hbk, -, -, -⟩ := hp2.1.bk
    obtain ⟨-, -, -, -, c4, -, -⟩ := prCell hbk
    have hRr := hp2.1.lt
    have hsw := hp2.2.size
    have HPW := Lib.hid hp2
    have HROW := Lib.hid hrow
    have HX1 := Lib.hid hx1
    by_cases he : s2.er = 0
    · have hj := hj he
      obtain ⟨j2, rfl⟩ : ∃ j', gk = j' + 1 := ⟨gk - 1, by omega⟩
      rw [he] at c4
      have HS := Lib.hid (show RES = if isSg e (hdT (P s2).2.l) then (xs ++ [(P s2).1], tlM (P s2).2) else moreM e P j2 (P s2).2 (xs ++ [(P s2).1]) by rw [← hres, moreM, if_pos he])
      have hless := HLS.out s2 he
      have hx0 := hx0 he
      have hC := HPP.out s2 wr hp2.1
      generalize P s2 = RV at *
      obtain ⟨x, s3⟩ := RV
      dsimp only at HS hless
      have HE := Lib.hid he
      have HLL := Lib.hid hless
      have HX0 := Lib.hid hx0
      have HJ := Lib.hid hj
      clear hres hp2 hrow hbk he hless hx0 hx1 hj
      obtain ⟨aL, cL, rfl, hcL, _⟩ := fresh_row HROW.out.own
      go_wp2_with fail
      refine hC.mono ?_
      rintro ee w2 ⟨es, hee, hE, hp3⟩
      dsimp only at hE hp3
      obtain ⟨g, hg⟩ : ∃ g, f = g + 1 := by
        cases f with
        | zero => exact hE.elim
        | succ g => exact ⟨g, rfl⟩
      rw [hg] at hE
      obtain ⟨hz1, va, vd, vs, rfl, ha1, hd1, hs1⟩ := hE
      have hE' : (SelE f) w2 (fun b => wr.heap.size ≤ b ∧ b < w2.heap.size) x [.int .i64 (x.k : Int), .string ⟨x.al.toArray⟩, .string ⟨x.nm.toArray⟩, .string ⟨x.on_.toArray⟩, va, vd, vs] := (by rw [hg]; exact ⟨hz1, va, vd, vs, rfl, ha1, hd1, hs1⟩)
      obtain ⟨aa, ca, rfl⟩ := ha1.shape
      obtain ⟨ad, cd, rfl⟩ := hd1.shape
      obtain ⟨as7, cs7, rfl⟩ := hs1.shape
      clear ha1 hd1 hs1
      have hee : ee = .returned (.agg #[.int .i64 (x.k : Int), .string ⟨x.al.toArray⟩, .string ⟨x.nm.toArray⟩, .string ⟨x.on_.toArray⟩, .slice aa x.args.length ca, .slice ad x.dirs.length cd, .slice as7 x.sels.length cs7]) := hee
      subst hee
      have HPR := Lib.hid (rec_new w2 7 #[.int .i64 (x.k : Int), .string ⟨x.al.toArray⟩, .string ⟨x.nm.toArray⟩, .string ⟨x.on_.toArray⟩, .slice aa x.args.length ca, .slice ad x.dirs.length cd, .slice as7 x.sels.length cs7] 49)
      have HONE := Lib.hid (((selOk f)).one hE')
      have hA := HROW.out.app (selOk f) hN HPW.out hp3 hE' (.cells #[.int .i64 (x.k : Int), .string ⟨x.al.toArray⟩, .string ⟨x.nm.toArray⟩, .string ⟨x.on_.toArray⟩, .slice aa x.args.length ca, .slice ad x.dirs.length cd, .slice as7 x.sels.length cs7] 49 (0, 0))
      have HA := Lib.hid hA
      have HOW := Lib.hid hA.1.own
      have HZ := Lib.hid (show w.heap.size ≤ (w2.alloc (.cells #[.int .i64 (x.k : Int), .string ⟨x.al.toArray⟩, .string ⟨x.nm.toArray⟩, .string ⟨x.on_.toArray⟩, .slice aa x.args.length ca, .slice ad x.dirs.length cd, .slice as7 x.sels.length cs7] 49 (0, 0))).heap.size by rw [hA.2.2]; have := hp3.2.size; omega)
      have HZ2 := Lib.hid hA.2.2
      have HP3 := Lib.hid hp3
      clear hp3 hE' hA hC
      have hxm : xs.length ≤ 1000 := by have := HX1.out; omega
      go_wp2_with (at_builtin; refine wpList_append_lies _ rfl _ _ 43 rfl w.heap.size 49 i2 (.agg #[.int .i64 0, .string ⟨#[]⟩, .string ⟨#[]⟩, .string ⟨#[]⟩, .slice none 0 0, .slice none 0 0, .slice none 0 0]) 7 128 Tryz.underlying43 hi2 hz20 hz21 hz22 rfl (by decide) (.slice aL xs.length cL) xs.length cs rfl HOW.out ⟨w2.heap.size, 0, none⟩ 1 1 [.int .i64 (x.k : Int), .string ⟨x.al.toArray⟩, .string ⟨x.nm.toArray⟩, .string ⟨x.on_.toArray⟩, .slice aa x.args.length ca, .slice ad x.dirs.length cd, .slice as7 x.sels.length cs7] rfl rfl HPR.out HONE.out (by decide) (by unfold maxLen; omega) (by omega) HZ.out (w2.heap.size + 1) HZ2.out ?_)
      intro g8 cap8 w8 hown8 hg8 hlie8 hl8
      obtain ⟨hrow8, hp8⟩ := app_done (selOk f) HPW.out HP3.out HA.out hN hown8 hg8 (by
        rcases hlie8 with ea | ea
        · exact .inl ea.symm
        · exact .inr (by rw [HZ2.out, ea]; rfl))
      have HT := pTakeSign_any e w8 hp8.1
      have HR8 := Lib.hid hrow8
      have HP8 := Lib.hid hp8
      clear hown8 hg8 hlie8 hrow8 hp8 HPR HONE HA HOW HZ HZ2 HP3
      cases hi : isSg e (hdT s3.l) with
      | true =>
        rw [hi] at HT HS
        simp only [reduceIte] at HT HS
        clear hi
        go_wp2_with fail
        refine HT.mono ?_
        rintro ee w9 ⟨rfl, hp9⟩
        have HP9 := Lib.hid hp9
        clear hp9 HT
        go_wp2_with fail
        go_ret
        rw [HS.out]
        exact ⟨_, rfl, (HR8.out.call (selOk f) hN hRN HP8.out HP9.out).done (selOk f) (by rw [List.length_append, List.length_singleton]; omega), HP8.out.trans HP9.out⟩
      | false =>
        rw [hi] at HT HS
        simp only [reduceIte, Bool.false_eq_true] at HT HS
        clear hi
        go_wp2_with fail
        refine HT.mono ?_
        rintro ee w9 ⟨rfl, hp9⟩
        have HP9 := Lib.hid hp9
        clear hp9 HT
        go_wp2_with fail
        go_roundg j2
        case measure => omega
        case rel => exact sevRel_next (HR8.out.call (selOk f) hN hRN HP8.out HP9.out) (HP8.out.trans HP9.out) HE.out HLL.out HX0.out HJ.out HS.out
    · have hne : ((s2.er : Int) == 0) = false := by rw [beq_eq_false_iff_ne]; omega
      have HS := Lib.hid (show RES = (xs, s2) by rw [← hres, moreM_bad e P he])
      obtain ⟨aL, cL, rfl, hcL, _⟩ := fresh_row HROW.out.own
      clear hres hp2 hrow hbk he hx0 hx1 hj
      go_wp2_with fail
      go_ret
      rw [HS.out]
      exact ⟨_, rfl, HROW.out.done (selOk f) (by have := HX1.out; omega), HPW.out⟩

end Go.Proofs.YtkfllppggjhhmaaGreatDoor
