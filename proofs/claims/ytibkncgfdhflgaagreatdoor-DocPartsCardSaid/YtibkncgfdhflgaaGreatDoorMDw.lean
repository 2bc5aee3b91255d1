/-
  doc's parser: one or more parts of type api.VarDef.
-/
import Derived.Test.YtibkncgfdhflgaaGreatDoorMDlg
import Derived.Test.YtibkncgfdhflgaaGreatDoorMDs3
import Derived.Test.YtibkncgfdhflgaaGreatDoorMDc2
import Derived.Test.YtibkncgfdhflgaaGreatDoorMDq5
namespace Go.Proofs.YtibkncgfdhflgaaGreatDoor
open Go.RowKit

theorem infoVar : (Tryz.prog.info? 49).map (fun i => (i.zero, i.size, i.bytes)) = some (some (.agg #[.string ⟨#[]⟩, .string ⟨#[]⟩, .string ⟨#[]⟩, .int .i64 0, .string ⟨#[]⟩, .slice none 0 0, .slice none 0 0]), 7, 120) := by kernel_rfl

set_option maxHeartbeats 4000000 in
set_option maxRecDepth 100000 in
theorem sevVar_any {c : Cx} {k : Nat} {s : Ms} (b e : List UInt8) (P : Ms → VarT × Ms) (w : World) (h : Pv c k s w) (hP : ∀ s' W, Pv c k s' W → Calls Tryz.prog 135 #[.pointer (some ⟨c.R, 0, none⟩)] W (RecAns VarE c k W (P s')))
    (hless : ∀ s', s'.er = 0 → (P s').2.er = 0 → (P s').2.l.length < s'.l.length) :
    Calls Tryz.prog 158 #[.pointer (some ⟨c.R, 0, none⟩), .string ⟨b.toArray⟩, .func (.func 135) #[.pointer (some ⟨c.R, 0, none⟩)] #[], .string ⟨e.toArray⟩] w (RowAns VarE 7 c k w (svM c.z b e P s)) := by
  obtain ⟨i2, hi2, hz20, hz21, hz22⟩ := info_parts infoVar
  have HM := pMust_any b w h
  have HRES := Lib.hid (show svM c.z b e P s = moreM e P ((sgM c.z b s).l.length + 1) (sgM c.z b s) [] from rfl)
  generalize svM c.z b e P s = RES at *
  generalize sgM c.z b s = s1 at *
  have HH := Lib.hid h
  have HPP := Lib.hid hP
  have HLS := Lib.hid hless
  have hN := h.hN
  have hRN := h.hR
  clear h hP hless
  go_enter Tryz.func158, Tryz.ntmps158
  go_wp2_with fail
  refine HM.mono ?_
  rintro ee w1 ⟨rfl, hp1⟩
  have hl1 := hp1.1.len
  have HP1 := Lib.hid hp1
  have HL1 := Lib.hid hl1
  clear hp1 HM hl1
  go_wp2_with fail
  go_loopg [9] (s1.l.length + 1) (fun j v9 wr => SevRel VarE c k w 49 7 e P RES j v9 wr)
  case atStart => exact ⟨s1, [], [], HP1.out, fun _ => Nat.lt_succ_self _, fun _ => by simpa using HL1.out, by decide, .nil, HRES.out.symm⟩
  case round =>
    obtain ⟨s2, xs, cs, hp2, hj, hx0, hx1, hrow, hres⟩ := hrel
    clear HP1 HL1 HRES
    obtain ⟨m, p, hbk, -, -, -⟩ := hp2.1.bk
    obtain ⟨-, -, -, -, c4, -, -⟩ := prCell hbk
    have hRr := hp2.1.lt
    have hsw := hp2.2.size
    have HPW := Lib.hid hp2
    have HROW := Lib.hid hrow
    have HX1 := Lib.hid hx1
    by_cases he : s2.er = 0
    · have hj := hj he
      obtain ⟨j2, rfl⟩ : ∃ j', gk = j' + 1 := ⟨gk - 1, by omega⟩
      rw [he] at c4
      have HS := Lib.hid (show RES = if isSg e (hdT (P s2).2.l) then (xs ++ [(P s2).1], tlM (P s2).2) else moreM e P j2 (P s2).2 (xs ++ [(P s2).1]) by rw [← hres, moreM, if_pos he])
      have hless := HLS.out s2 he
      have hx0 := hx0 he
      have hC := HPP.out s2 wr hp2.1
      generalize P s2 = RV at *
      obtain ⟨x, s3⟩ := RV
      dsimp only at HS hless
      have HE := Lib.hid he
      have HLL := Lib.hid hless
      have HX0 := Lib.hid hx0
      have HJ := Lib.hid hj
      clear hres hp2 hrow hbk he hless hx0 hx1 hj
      obtain ⟨aL, cL, rfl, hcL, _⟩ := fresh_row HROW.out.own
      go_wp2_with fail
      refine hC.mono ?_
      rintro ee w2 ⟨es, hee, hE, hp3⟩
      dsimp only at hE hp3
      obtain ⟨hz1, c0, c1, c2, c3, rfl, hE1⟩ := hE
      have hE' : VarE w2 (fun b => wr.heap.size ≤ b ∧ b < w2.heap.size) x [.string ⟨x.nm.toArray⟩, .string ⟨x.ty.1.toArray⟩, .string ⟨x.ty.2.toArray⟩, c0, c1, c2, c3] := ⟨hz1, c0, c1, c2, c3, rfl, hE1⟩
      obtain ⟨an, cn, ap, cp, hsh⟩ := hE1.shape
      obtain ⟨rfl, rfl, rfl, rfl⟩ := agg4_inj hsh
      clear hE1 hsh
      have hee : ee = .returned (.agg #[.string ⟨x.nm.toArray⟩, .string ⟨x.ty.1.toArray⟩, .string ⟨x.ty.2.toArray⟩, .int .i64 x.dflt.k, .string x.dflt.s, .slice an x.dflt.ns.length cn, .slice ap x.dflt.ps.length cp]) := hee
      subst hee
      have HPR := Lib.hid (rec_new w2 7 #[.string ⟨x.nm.toArray⟩, .string ⟨x.ty.1.toArray⟩, .string ⟨x.ty.2.toArray⟩, .int .i64 x.dflt.k, .string x.dflt.s, .slice an x.dflt.ns.length cn, .slice ap x.dflt.ps.length cp] 49)
      have HONE := Lib.hid ((varOk).one hE')
      have hA := HROW.out.app varOk hN HPW.out hp3 hE' (.cells #[.string ⟨x.nm.toArray⟩, .string ⟨x.ty.1.toArray⟩, .string ⟨x.ty.2.toArray⟩, .int .i64 x.dflt.k, .string x.dflt.s, .slice an x.dflt.ns.length cn, .slice ap x.dflt.ps.length cp] 49 (0, 0))
      have HA := Lib.hid hA
      have HOW := Lib.hid hA.1.own
      have HZ := Lib.hid (show w.heap.size ≤ (w2.alloc (.cells #[.string ⟨x.nm.toArray⟩, .string ⟨x.ty.1.toArray⟩, .string ⟨x.ty.2.toArray⟩, .int .i64 x.dflt.k, .string x.dflt.s, .slice an x.dflt.ns.length cn, .slice ap x.dflt.ps.length cp] 49 (0, 0))).heap.size by rw [hA.2.2]; have := hp3.2.size; omega)
      have HZ2 := Lib.hid hA.2.2
      have HP3 := Lib.hid hp3
      clear hp3 hE' hA hC
      have hxm : xs.length ≤ 1000 := by have := HX1.out; omega
      go_wp2_with (at_builtin; refine wpList_append_lies _ rfl _ _ 33 rfl w.heap.size 49 i2 (.agg #[.string ⟨#[]⟩, .string ⟨#[]⟩, .string ⟨#[]⟩, .int .i64 0, .string ⟨#[]⟩, .slice none 0 0, .slice none 0 0]) 7 120 Tryz.underlying33 hi2 hz20 hz21 hz22 rfl (by decide) (.slice aL xs.length cL) xs.length cs rfl HOW.out ⟨w2.heap.size, 0, none⟩ 1 1 [.string ⟨x.nm.toArray⟩, .string ⟨x.ty.1.toArray⟩, .string ⟨x.ty.2.toArray⟩, .int .i64 x.dflt.k, .string x.dflt.s, .slice an x.dflt.ns.length cn, .slice ap x.dflt.ps.length cp] rfl rfl HPR.out HONE.out (by decide) (by unfold maxLen; omega) (by omega) HZ.out (w2.heap.size + 1) HZ2.out ?_)
      intro g8 cap8 w8 hown8 hg8 hlie8 hl8
      obtain ⟨hrow8, hp8⟩ := app_done varOk HPW.out HP3.out HA.out hN hown8 hg8 (by
        rcases hlie8 with ea | ea
        · exact .inl ea.symm
        · exact .inr (by rw [HZ2.out, ea]; rfl))
      have HT := pTakeSign_any e w8 hp8.1
      have HR8 := Lib.hid hrow8
      have HP8 := Lib.hid hp8
      clear hown8 hg8 hlie8 hrow8 hp8 HPR HONE HA HOW HZ HZ2 HP3
      cases hi : isSg e (hdT s3.l) with
      | true =>
        rw [hi] at HT HS
        simp only [reduceIte] at HT HS
        clear hi
        go_wp2_with fail
        refine HT.mono ?_
        rintro ee w9 ⟨rfl, hp9⟩
        have HP9 := Lib.hid hp9
        clear hp9 HT
        go_wp2_with fail
        go_ret
        rw [HS.out]
        exact ⟨_, rfl, (HR8.out.call varOk hN hRN HP8.out HP9.out).done varOk (by rw [List.length_append, List.length_singleton]; omega), HP8.out.trans HP9.out⟩
      | false =>
        rw [hi] at HT HS
        simp only [reduceIte, Bool.false_eq_true] at HT HS
        clear hi
        go_wp2_with fail
        refine HT.mono ?_
        rintro ee w9 ⟨rfl, hp9⟩
        have HP9 := Lib.hid hp9
        clear hp9 HT
        go_wp2_with fail
        go_roundg j2
        case measure => omega
        case rel => exact sevRel_next (HR8.out.call varOk hN hRN HP8.out HP9.out) (HP8.out.trans HP9.out) HE.out HLL.out HX0.out HJ.out HS.out
    · have hne : ((s2.er : Int) == 0) = false := by rw [beq_eq_false_iff_ne]; omega
      have HS := Lib.hid (show RES = (xs, s2) by rw [← hres, moreM_bad e P he])
      obtain ⟨aL, cL, rfl, hcL, _⟩ := fresh_row HROW.out.own
      clear hres hp2 hrow hbk he hx0 hx1 hj
      go_wp2_with fail
      go_ret
      rw [HS.out]
      exact ⟨_, rfl, HROW.out.done varOk (by have := HX1.out; omega), HPW.out⟩

end Go.Proofs.YtibkncgfdhflgaaGreatDoor

/-
  doc's parser: a variable's definition; such definitions, or none.
-/
namespace Go.Proofs.YtibkncgfdhflgaaGreatDoor
open Go.RowKit

set_option maxHeartbeats 2000000 in
set_option maxRecDepth 100000 in
theorem sonVar_any {c : Cx} {k : Nat} {s : Ms} (b e : List UInt8) (P : Ms → VarT × Ms) (w : World) (h : Pv c k s w) (hP : ∀ s' W, Pv c k s' W → Calls Tryz.prog 135 #[.pointer (some ⟨c.R, 0, none⟩)] W (RecAns VarE c k W (P s')))
    (hless : ∀ s', s'.er = 0 → (P s').2.er = 0 → (P s').2.l.length < s'.l.length) :
    Calls Tryz.prog 134 #[.pointer (some ⟨c.R, 0, none⟩), .string ⟨b.toArray⟩, .func (.func 135) #[.pointer (some ⟨c.R, 0, none⟩)] #[], .string ⟨e.toArray⟩] w (RowAns VarE 7 c k w (soM c.z b e P s)) := by
  have HS := pSign_any b w h
  have HH := Lib.hid h
  have HM := Lib.hid (show soM c.z b e P s = if isSg b (hdT s.l) then svM c.z b e P s else ([], s) from rfl)
  have HV := fun W (hb : Below w.heap.size w W) => sevVar_any b e P W (h.below hb h.hN) hP hless
  clear h hP hless
  cases hi : isSg b (hdT s.l) with
  | true =>
    rw [hi] at HS HM
    clear hi
    go_enter Tryz.func134, Tryz.ntmps134
    go_wp2_with fail
    refine HS.mono ?_
    rintro ee w1 ⟨rfl, hb⟩
    have HV1 := HV w1 hb
    have HB := Lib.hid hb
    clear HV HS hb
    go_wp2_with fail
    refine HV1.mono ?_
    rintro ee w2 ⟨v, rfl, hR, hp⟩
    have HR := Lib.hid hR
    have HP := Lib.hid hp
    obtain ⟨a, cp, rfl⟩ := hR.shape
    clear hR hp HV1
    go_wp2_with fail
    go_ret
    rw [HM.out]
    exact ⟨_, rfl, RowD.step varOk (fun b hd => ⟨Nat.le_trans HB.out.size hd.1, hd.2⟩) (fun _ _ _ => rfl) HR.out, ((Pw.refl HH.out).below HB.out).trans HP.out⟩
  | false =>
    rw [hi] at HS HM
    clear hi HV
    go_enter Tryz.func134, Tryz.ntmps134
    go_wp2_with fail
    refine HS.mono ?_
    rintro ee w1 ⟨rfl, hb⟩
    have HB := Lib.hid hb
    clear HS hb
    go_wp2_with fail
    go_ret
    rw [HM.out]
    exact ⟨_, rfl, .nil, (Pw.refl HH.out).below HB.out⟩

theorem tyM_fwd (z : Nat) (s : Ms) : Fwd s (tyM z s).2 := by
  unfold tyM
  split
  · exact ⟨by show (s.l.drop _).length ≤ _; rw [List.length_drop]; omega, id⟩
  · exact (fail_eats z (by decide) s).fwd
theorem dfltM_fwd (z : Nat) (s : Ms) : Fwd s (dfltM z s).2 := by
  unfold dfltM
  split
  · exact Fwd.trans ⟨tl_le s, id⟩ (vaM_fwd z _ _)
  · exact .refl s
theorem vdM_eats (z : Nat) (s : Ms) : Eats s (vdM z s).2 := (sgM_eats z [36] s).then ((((nmM_eats z _).fwd.trans (sgM_eats z [58] _).fwd).trans (tyM_fwd z _)).trans (dfltM_fwd z _))

set_option maxHeartbeats 8000000 in
set_option maxRecDepth 100000 in
theorem pVar_any {c : Cx} {k : Nat} {s : Ms} (w : World) (h : Pv c k s w) : Calls Tryz.prog 135 #[.pointer (some ⟨c.R, 0, none⟩)] w (RecAns VarE c k w (vdM c.z s)) := by
  have G0 := (Lb.new h 49 #[.string ⟨#[]⟩, .string ⟨#[]⟩, .string ⟨#[]⟩, .int .i64 0, .string ⟨#[]⟩, .slice none 0 0, .slice none 0 0]).made #[.string ⟨#[]⟩, .string ⟨#[]⟩, .string ⟨#[]⟩, .int .i64 0, .string ⟨#[]⟩, .slice none 0 0, .slice none 0 0]
  have hgs : (w.alloc (.cells #[.string ⟨#[]⟩, .string ⟨#[]⟩, .string ⟨#[]⟩, .int .i64 0, .string ⟨#[]⟩, .slice none 0 0, .slice none 0 0] 49 (0, 0))).heap.size = w.heap.size + 1 := by simp
  rw [hgs] at G0
  have HC1 := pMust_any [36] _ G0.b.p.1
  have HM := Lib.hid (show vdM c.z s = (⟨(nmM c.z (sgM c.z [36] s)).1, (tyM c.z (sgM c.z [58] (nmM c.z (sgM c.z [36] s)).2)).1, (dfltM c.z (tyM c.z (sgM c.z [58] (nmM c.z (sgM c.z [36] s)).2)).2).1⟩, (dfltM c.z (tyM c.z (sgM c.z [58] (nmM c.z (sgM c.z [36] s)).2)).2).2) from rfl)
  have HG0 := Lib.hid G0
  generalize sgM c.z [36] s = s1 at *
  generalize vdM c.z s = RES at *
  clear G0 h hgs
  go_enter Tryz.func135, Tryz.ntmps135
  go_wp2_with fail
  refine HC1.mono ?_
  rintro e w1 ⟨rfl, p1⟩
  have G1 := HG0.out.call p1
  have HG1 := Lib.hid G1.1
  have HC2 := pNm_any w1 G1.1.b.p.1
  have HZ := Lib.hid (nmM_size G1.1.b.p.1)
  generalize nmM c.z s1 = R1 at *
  obtain ⟨nm, s2⟩ := R1
  dsimp only at HC2 HM HZ
  clear p1 G1 HC1 HG0
  go_wp2_with fail
  refine HC2.mono ?_
  rintro e w2 ⟨rfl, p2⟩
  have G2 := HG1.out.call p2
  have T2 := G2.1.set 0 (.string ⟨nm.toArray⟩)
  have HT2 := Lib.hid T2.1
  obtain ⟨b0, b1, b2, b3, b4, b5, b6, bf, bl⟩ := blk7 G2.1.h1
  have HC3 := pMust_any [58] _ T2.1.b.p.1
  clear p2 G2 HC2 HG1 T2
  go_wp2_with fail
  refine HC3.mono ?_
  rintro e w3 ⟨rfl, p3⟩
  have G3 := HT2.out.call p3
  have HG3 := Lib.hid G3.1
  generalize sgM c.z [58] s2 = s3 at *
  have HC4 := pType_any w3 G3.1.b.p.1
  generalize tyM c.z s3 = RT at *
  obtain ⟨⟨tn, tw⟩, s4⟩ := RT
  dsimp only at HC4 HM
  clear p3 G3 HC3 HT2 b0 b1 b2 b3 b4 b5 b6 bf bl
  go_wp2_with fail
  refine HC4.mono ?_
  rintro e w4 ⟨rfl, p4⟩
  have G4 := HG3.out.call p4
  have T4 := G4.1.set 1 (.string ⟨tn.toArray⟩)
  have T5 := T4.1.set 2 (.string ⟨tw.toArray⟩)
  have HT5 := Lib.hid T5.1
  obtain ⟨b0, b1, b2, b3, b4, b5, b6, bf, bl⟩ := blk7 G4.1.h1
  have HC5 := pTakeSign_any [61] _ T5.1.b.p.1
  have HO := Lib.hid (show dfltM c.z s4 = if isSg [61] (hdT s4.l) then coM c.z (tlM s4) else (vz, s4) from rfl)
  generalize dfltM c.z s4 = RD at *
  obtain ⟨dv, s5⟩ := RD
  dsimp only at HM
  clear p4 G4 HC4 HG3 T4 T5
  go_wp2_with fail
  refine HC5.mono ?_
  rintro e w5 ⟨rfl, p5⟩
  have G5 := HT5.out.call p5
  have HG5 := Lib.hid G5.1
  clear b0 b1 b2 b3 b4 b5 b6 bf bl
  obtain ⟨b0, b1, b2, b3, b4, b5, b6, bf, bl⟩ := blk7 G5.1.h1
  clear p5 G5 HC5 HT5
  go_upto_if 15 with fail
  go_cut [] (fun wc => ∃ kk ss an ln cn ap lp cp, Lg c k w 49 (w.heap.size + 1) #[.string ⟨#[]⟩, .string ⟨#[]⟩, .string ⟨#[]⟩, .int .i64 0, .string ⟨#[]⟩, .slice none 0 0, .slice none 0 0] #[.string ⟨nm.toArray⟩, .string ⟨tn.toArray⟩, .string ⟨tw.toArray⟩, .int .i64 kk, .string ss, .slice an ln cn, .slice ap lp cp] s5 wc ∧ RdD wc (Dg w (w.heap.size + 1) wc) 13 dv (.agg #[.int .i64 kk, .string ss, .slice an ln cn, .slice ap lp cp]))
  case first =>
    cases hi : isSg [61] (hdT s4.l) with
    | true =>
      rw [hi] at HO HG5
      simp only [reduceIte] at HO HG5
      have HC6 := pConst_any w5 HG5.out.b.p.1
      rw [← HO.out] at HC6
      clear hi HO
      go_wp2_with fail
      refine HC6.mono ?_
      rintro e w6 ⟨kk, ss, an, ln, cn, ap, lp, cp, rfl, hR, p6⟩
      dsimp only at hR p6
      have G6 := HG5.out.call p6
      have hd := RdD.step (D' := Dg w (w.heap.size + 1) w6) (w' := w6) (dg_of HG5.out) (fun _ _ _ => rfl) hR
      have T6 := G6.1.set 3 (.int .i64 kk)
      have T7 := T6.1.set 4 (.string ss)
      have T8 := T7.1.set 5 (.slice an ln cn)
      have T9 := T8.1.set 6 (.slice ap lp cp)
      have HX := Lib.hid (And.intro T9.1 ((((T6.2.trans T7.2).trans T8.2).trans T9.2).rd hd))
      clear b0 b1 b2 b3 b4 b5 b6 bf bl
      obtain ⟨b0, b1, b2, b3, b4, b5, b6, bf, bl⟩ := blk7 G6.1.h1
      clear p6 G6 HC6 HG5 hR hd T6 T7 T8 T9
      go_wp2_with fail
      go_meet
      case rel => exact ⟨kk, ss, an, ln, cn, ap, lp, cp, HX.out⟩
    | false =>
      rw [hi] at HO HG5
      simp only [reduceIte, Bool.false_eq_true] at HO HG5
      have ho := HO.out
      injection ho with ho1 ho2
      subst ho1 ho2
      clear hi HO
      go_wp2_with fail
      go_meet
      case rel => exact ⟨0, ⟨#[]⟩, none, 0, 0, none, 0, 0, HG5.out, rd_leaf _ _ 12 0 ⟨#[]⟩ (Nat.zero_le _)⟩
  case rest =>
    obtain ⟨kk, ss, an, ln, cn, ap, lp, cp, G8, hV⟩ := hcut
    have U := G8.fin7 (.string ⟨nm.toArray⟩) (.string ⟨tn.toArray⟩) (.string ⟨tw.toArray⟩) (.int .i64 kk) (.string ss) (.slice an ln cn) (.slice ap lp cp)
    have HV := Lib.hid (U.2.rd hV)
    have HU := Lib.hid U.1
    clear b0 b1 b2 b3 b4 b5 b6 bf bl
    obtain ⟨b0, b1, b2, b3, b4, b5, b6, bf, bl⟩ := blk7 G8.h1
    obtain ⟨a0, a1, a2, a3, a4, a5, a6, af, al2⟩ := blk7 G8.b.h0
    obtain ⟨f0, f1, f2, f3, f4, f5, f6, -, -⟩ := blk7 U.1.b.h0
    have HF := Lib.hid (And.intro f0 (And.intro f1 (And.intro f2 (And.intro f3 (And.intro f4 (And.intro f5 f6))))))
    clear G8 U hV HG5 f0 f1 f2 f3 f4 f5 f6 HO
    go_wp2_with fail
    obtain ⟨f0, f1, f2, f3, f4, f5, f6⟩ := HF.out
    refine bodyPost_ret (v := .agg #[.string ⟨nm.toArray⟩, .string ⟨tn.toArray⟩, .string ⟨tw.toArray⟩, .int .i64 kk, .string ss, .slice an ln cn, .slice ap lp cp]) (by simp [results, Tryz.results135, go_sem, f0, f1, f2, f3, f4, f5, f6]) rfl ?_
    rw [HM.out]
    exact ⟨[.string ⟨nm.toArray⟩, .string ⟨tn.toArray⟩, .string ⟨tw.toArray⟩, .int .i64 kk, .string ss, .slice an ln cn, .slice ap lp cp], rfl, varOk.step dg_fin (fun _ _ _ => rfl) ⟨HZ.out, _, _, _, _, rfl, HV.out⟩, HU.out.b.p⟩

end Go.Proofs.YtibkncgfdhflgaaGreatDoor
