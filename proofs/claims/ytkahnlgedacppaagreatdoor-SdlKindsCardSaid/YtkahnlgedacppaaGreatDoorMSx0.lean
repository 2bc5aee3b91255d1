/-
  sdl's parser: a field.
-/
import Derived.Test.YtkahnlgedacppaaGreatDoorMKa2
import Derived.Test.YtkahnlgedacppaaGreatDoorMKvFld
import Derived.Test.YtkahnlgedacppaaGreatDoorMKa
import Derived.Maps.OwnSet
import Derived.Maps.AppendAt
namespace Go.Proofs.YtkahnlgedacppaaGreatDoor
open Go.RowKit

theorem fldM_eats (z : Nat) (s : Ms) : Eats s (fldM z s).2 := (deM_eats z s).then ((((argsM_fwd z _).trans (sgM_eats z [58] _).fwd).trans (tyS_fwd z _)).trans (costM_fwd z _))
theorem Lb.fin5' {c : Cx} {k : Nat} {w : World} {T : TypeId} {g : Nat} {b1 : Array Value} {s : Ms} {W : World} {z0 z1 z2 z3 z4 : Value} (h : Lg c k w T g #[z0, z1, z2, z3, z4] b1 s W) (c0 c1 c2 c3 c4 : Value) :
    Lg c k w T g #[c0, c1, c2, c3, c4] b1 s (((((W.setCell ⟨w.heap.size, 0, none⟩ c0).setCell ⟨w.heap.size, 1, none⟩ c1).setCell ⟨w.heap.size, 2, none⟩ c2).setCell ⟨w.heap.size, 3, none⟩ c3).setCell ⟨w.heap.size, 4, none⟩ c4) ∧ Kp w g W (((((W.setCell ⟨w.heap.size, 0, none⟩ c0).setCell ⟨w.heap.size, 1, none⟩ c1).setCell ⟨w.heap.size, 2, none⟩ c2).setCell ⟨w.heap.size, 3, none⟩ c3).setCell ⟨w.heap.size, 4, none⟩ c4) := by
  have U0 := h.finE 0 c0 (b0' := #[c0, z1, z2, z3, z4]) rfl
  have U1 := U0.1.finE 1 c1 (b0' := #[c0, c1, z2, z3, z4]) rfl
  have U2 := U1.1.finE 2 c2 (b0' := #[c0, c1, c2, z3, z4]) rfl
  have U3 := U2.1.finE 3 c3 (b0' := #[c0, c1, c2, c3, z4]) rfl
  have U4 := U3.1.finE 4 c4 (b0' := #[c0, c1, c2, c3, c4]) rfl
  exact ⟨U4.1, ((((U0.2).trans U1.2).trans U2.2).trans U3.2).trans U4.2⟩

set_option maxHeartbeats 8000000 in
set_option maxRecDepth 100000 in
theorem sField_any {c : Cs} {s : Ms} (w : World) (h : Pv c 0 s w) (hJ : c.J = EvOk) : Calls Tryz.prog 142 #[.pointer (some ⟨c.Q, 0, none⟩)] w (RecAns FldE c 0 w (fldM c.z s)) := by
  have q00 := h.qs
  have l00 := h.ltQ
  have L0 := Lb.new h 49 #[.string ⟨#[]⟩, .slice none 0 0, .string ⟨#[]⟩, .string ⟨#[]⟩, .int .i64 0]
  have HL0 := Lib.hid L0
  have HC1 := sDescr_any _ L0.p.1
  have HM := Lib.hid (show fldM c.z s = (⟨(deM c.z s).1, (argsM c.z (deM c.z s).2).1, (tyM c.z (sgM c.z [58] (argsM c.z (deM c.z s).2).2)).1, (costM c.z (tyM c.z (sgM c.z [58] (argsM c.z (deM c.z s).2).2)).2).1⟩, (costM c.z (tyM c.z (sgM c.z [58] (argsM c.z (deM c.z s).2).2)).2).2) from rfl)
  have HZ := Lib.hid (deM_size h)
  generalize deM c.z s = R1 at *
  generalize fldM c.z s = RES at *
  obtain ⟨nm, s1⟩ := R1
  dsimp only at HC1 HM HZ
  clear L0 h
  go_enter Tryz.func142, Tryz.ntmps142
  go_wp2_with fail
  refine HC1.mono ?_
  rintro e w1 ⟨rfl, p1⟩
  have qw1 := p1.1.qs
  have lw1 := p1.1.ltQ
  have hQg : c.Q ≠ w1.heap.size := by omega
  have hQ0 : c.Q ≠ w.heap.size := by omega
  have G1 := (HL0.out.call p1).made #[.string ⟨nm.toArray⟩, .slice none 0 0, .string ⟨#[]⟩, .string ⟨#[]⟩, .int .i64 0]
  have hlt := HL0.out.sz
  have hlt1 := (HL0.out.call p1).sz
  have hbw : w1.heap.size ≠ w.heap.size := by omega
  have HC2 := sonInp_any [40] [41] (inpM c.z) _ G1.b.p.1 (fun s' W h' => sInput_any W h') (fun s' _ h2 => (inpM_eats c.z s').lt h2)
  rw [show soM c.z [40] [41] (inpM c.z) s1 = argsM c.z s1 from rfl] at HC2
  have HG1 := Lib.hid G1
  clear p1 G1 HC1 HL0
  go_wp2_with fail
  refine HC2.mono ?_
  rintro e w2 ⟨v, rfl, hR, p2⟩
  have qw2 := p2.1.qs
  have lw2 := p2.1.ltQ
  have G2 := HG1.out.call p2
  have hd := RowD.step (D' := Dg w w1.heap.size w2) (w' := w2) varOk (dg_of HG1.out) (fun _ _ _ => rfl) hR
  generalize argsM c.z s1 = RA at *
  obtain ⟨gs, s2⟩ := RA
  dsimp only at HM hd G2 hR
  obtain ⟨va, vc, rfl⟩ := hR.shape
  have T2 := G2.1.set 1 (.slice va gs.length vc)
  have HD2 := Lib.hid (T2.2.row varOk hd)
  have HT2 := Lib.hid T2.1
  obtain ⟨b0, b1, b2, b3, b4, bf, bl⟩ := blk5 G2.1.h1
  have HC3 := pMust_any [58] _ T2.1.b.p.1
  generalize sgM c.z [58] s2 = s3 at *
  clear p2 G2 HC2 HG1 hR hd T2
  go_wp2_with fail
  refine HC3.mono ?_
  rintro e w3 ⟨rfl, p3⟩
  have qw3 := p3.1.qs
  have lw3 := p3.1.ltQ
  have G3 := HT2.out.call p3
  have HD3 := Lib.hid (G3.2.row varOk HD2.out)
  have HG3 := Lib.hid G3.1
  have HC4 := pType_any w3 G3.1.b.p.1
  have HTZ := Lib.hid (tyM_size G3.1.b.p.1)
  generalize tyM c.z s3 = RT at *
  obtain ⟨⟨tn, tw⟩, s4⟩ := RT
  dsimp only at HC4 HM HTZ
  clear p3 G3 HC3 HT2 HD2 b0 b1 b2 b3 b4 bf bl
  go_wp2_with fail
  refine HC4.mono ?_
  rintro e w4 ⟨rfl, p4⟩
  have qw4 := p4.1.qs
  have lw4 := p4.1.ltQ
  have G4 := HG3.out.call p4
  have T4 := G4.1.set 2 (.string ⟨tn.toArray⟩)
  have T5 := T4.1.set 3 (.string ⟨tw.toArray⟩)
  have HD5 := Lib.hid (T5.2.row varOk (T4.2.row varOk (G4.2.row varOk HD3.out)))
  have HT5 := Lib.hid T5.1
  obtain ⟨b0, b1, b2, b3, b4, bf, bl⟩ := blk5 G4.1.h1
  have HC5 := sCost_any _ T5.1.b.p.1 hJ
  generalize costM c.z s4 = RC at *
  obtain ⟨co, s5⟩ := RC
  dsimp only at HC5 HM
  clear p4 G4 HC4 HG3 HD3 T4 T5
  go_wp2_with fail
  refine HC5.mono ?_
  rintro e w5 ⟨rfl, p5⟩
  have G5 := HT5.out.call p5
  have T6 := G5.1.set 4 (.int .i64 co)
  have U := Lb.fin5' T6.1 (.string ⟨nm.toArray⟩) (.slice va gs.length vc) (.string ⟨tn.toArray⟩) (.string ⟨tw.toArray⟩) (.int .i64 co)
  have HV := Lib.hid (U.2.row varOk (T6.2.row varOk (G5.2.row varOk HD5.out)))
  have HU := Lib.hid U.1
  clear b0 b1 b2 b3 b4 bf bl
  obtain ⟨b0, b1, b2, b3, b4, bf, bl⟩ := blk5 G5.1.h1
  obtain ⟨a0, a1, a2, a3, a4, af, al2⟩ := blk5 G5.1.b.h0
  obtain ⟨f0, f1, f2, f3, f4, -, -⟩ := blk5 U.1.b.h0
  have HF := Lib.hid (And.intro f0 (And.intro f1 (And.intro f2 (And.intro f3 f4))))
  clear p5 G5 HC5 HT5 HD5 T6 U f0 f1 f2 f3 f4
  go_wp2_with fail
  obtain ⟨f0, f1, f2, f3, f4⟩ := HF.out
  refine bodyPost_ret (v := .agg #[.string ⟨nm.toArray⟩, .slice va gs.length vc, .string ⟨tn.toArray⟩, .string ⟨tw.toArray⟩, .int .i64 co]) (by simp [results, Tryz.results142, go_sem, f0, f1, f2, f3, f4]) rfl ?_
  rw [HM.out]
  exact ⟨[.string ⟨nm.toArray⟩, .slice va gs.length vc, .string ⟨tn.toArray⟩, .string ⟨tw.toArray⟩, .int .i64 co], rfl, fldOk.step dg_fin (fun _ _ _ => rfl) ⟨⟨HZ.out, HTZ.out.1, HTZ.out.2⟩, _, rfl, HV.out⟩, HU.out.b.p⟩

end Go.Proofs.YtkahnlgedacppaaGreatDoor
/-
  The cursor: one or more parts of type string.
-/
namespace Go.Proofs.YtkahnlgedacppaaGreatDoor
open Go.RowKit

theorem infoStrK : (Tryz.prog.info? 9).map (fun i => (i.zero, i.size, i.bytes)) = some (some (.string ⟨#[]⟩), 1, 16) := by kernel_rfl

set_option maxHeartbeats 4000000 in
set_option maxRecDepth 100000 in
theorem sevStr_any {c : Cx} {k : Nat} {s : Ms} (b e : List UInt8) (P : Ms → Nm × Ms) (w : World) (h : Pv c k s w) (hP : ∀ s' W, Pv c k s' W → Calls Tryz.prog 144 #[.pointer (some ⟨c.Q, 0, none⟩)] W (fun e w' => e = .returned (.string ⟨(P s').1.toArray⟩) ∧ Pw c k (P s').2 W w')) (hsz : ∀ s' W, Pv c k s' W → (P s').1.length ≤ 2000000)
    (hless : ∀ s', s'.er = 0 → (P s').2.er = 0 → (P s').2.l.length < s'.l.length) :
    Calls Tryz.prog 143 #[.pointer (some ⟨c.R, 0, none⟩), .string ⟨b.toArray⟩, .func (.func 144) #[.pointer (some ⟨c.Q, 0, none⟩)] #[], .string ⟨e.toArray⟩] w (RowAns StrE 1 c k w (svM c.z b e P s)) := by
  obtain ⟨i2, hi2, hz20, hz21, hz22⟩ := info_parts infoStrK
  have HM := pMust_any b w h
  have HRES := Lib.hid (show svM c.z b e P s = moreM e P ((sgM c.z b s).l.length + 1) (sgM c.z b s) [] from rfl)
  generalize svM c.z b e P s = RES at *
  generalize sgM c.z b s = s1 at *
  have HH := Lib.hid h
  have HPP := Lib.hid hP
  have HSZ0 := Lib.hid hsz
  have HLS := Lib.hid hless
  have hN := h.hN
  have hRN := h.hR
  clear h hP hless hsz
  go_enter Tryz.func143, Tryz.ntmps143
  go_wp2_with fail
  refine HM.mono ?_
  rintro ee w1 ⟨rfl, hp1⟩
  have hl1 := hp1.1.len
  have HP1 := Lib.hid hp1
  have HL1 := Lib.hid hl1
  clear hp1 HM hl1
  go_wp2_with fail
  go_loopg [9] (s1.l.length + 1) (fun j v9 wr => SevRel StrE c k w 9 1 e P RES j v9 wr)
  case atStart => exact ⟨s1, [], [], HP1.out, fun _ => Nat.lt_succ_self _, fun _ => by simpa using HL1.out, by decide, .nil, HRES.out.symm⟩
  case round =>
    obtain ⟨s2, xs, cs, hp2, hj, hx0, hx1, hrow, hres⟩ := hrel
    clear HP1 HL1 HRES
    obtain ⟨m, p, hbk, -, -, -⟩ := hp2.1.bk
    obtain ⟨-, -, -, c4, -, -, -⟩ := prCell hbk
    have hRr := hp2.1.lt
    have hsw := hp2.2.size
    have HPW := Lib.hid hp2
    have HROW := Lib.hid hrow
    have HX1 := Lib.hid hx1
    by_cases he : s2.er = 0
    · have hj := hj he
      obtain ⟨j2, rfl⟩ : ∃ j', gk = j' + 1 := ⟨gk - 1, by omega⟩
      rw [he] at c4
      have HS := Lib.hid (show RES = if isSg e (hdT (P s2).2.l) then (xs ++ [(P s2).1], tlM (P s2).2) else moreM e P j2 (P s2).2 (xs ++ [(P s2).1]) by rw [← hres, moreM, if_pos he])
      have hless := HLS.out s2 he
      have hx0 := hx0 he
      have hC := HPP.out s2 wr hp2.1
      have hsx := HSZ0.out s2 wr hp2.1
      generalize P s2 = RV at *
      obtain ⟨x, s3⟩ := RV
      dsimp only at HS hless hsx
      have HE := Lib.hid he
      have HLL := Lib.hid hless
      have HX0 := Lib.hid hx0
      have HJ := Lib.hid hj
      clear hres hp2 hrow hbk he hless hx0 hx1 hj
      obtain ⟨aL, cL, rfl, hcL, _⟩ := fresh_row HROW.out.own
      go_wp2_with fail
      refine hC.mono ?_
      rintro ee w2 ⟨rfl, hp3⟩
      have hE' : StrE w2 (fun b => wr.heap.size ≤ b ∧ b < w2.heap.size) x [.string ⟨x.toArray⟩] := ⟨hsx, rfl⟩
      have HPR := Lib.hid (rec_new w2 1 #[.string ⟨x.toArray⟩] 9)
      have HONE := Lib.hid ((strOk).one hE')
      have hA := HROW.out.app strOk hN HPW.out hp3 hE' (.cells #[.string ⟨x.toArray⟩] 9 (0, 0))
      have HA := Lib.hid hA
      have HOW := Lib.hid hA.1.own
      have HZ := Lib.hid (show w.heap.size ≤ (w2.alloc (.cells #[.string ⟨x.toArray⟩] 9 (0, 0))).heap.size by rw [hA.2.2]; have := hp3.2.size; omega)
      have HZ2 := Lib.hid hA.2.2
      have HP3 := Lib.hid hp3
      clear hp3 hE' hA hC
      have hxm : xs.length ≤ 9000 := by have := HX1.out; omega
      go_wp2_with (at_builtin; refine wpList_append_lies _ rfl _ _ 41 rfl w.heap.size 9 i2 (.string ⟨#[]⟩) 1 16 Tryz.underlying41 hi2 hz20 hz21 hz22 rfl (by decide) (.slice aL xs.length cL) xs.length cs rfl HOW.out ⟨w2.heap.size, 0, none⟩ 1 1 [.string ⟨x.toArray⟩] rfl rfl HPR.out HONE.out (by decide) (by unfold maxLen; omega) (by omega) HZ.out (w2.heap.size + 1) HZ2.out ?_)
      intro g8 cap8 w8 hown8 hg8 hlie8 hl8
      obtain ⟨hrow8, hp8⟩ := app_done strOk HPW.out HP3.out HA.out hN hown8 hg8 (by
        rcases hlie8 with ea | ea
        · exact .inl ea.symm
        · exact .inr (by rw [HZ2.out, ea]; rfl))
      have HT := pTakeSign_any e w8 hp8.1
      have HR8 := Lib.hid hrow8
      have HP8 := Lib.hid hp8
      clear hown8 hg8 hlie8 hrow8 hp8 HPR HONE HA HOW HZ HZ2 HP3
      cases hi : isSg e (hdT s3.l) with
      | true =>
        rw [hi] at HT HS
        simp only [reduceIte] at HT HS
        clear hi
        go_wp2_with fail
        refine HT.mono ?_
        rintro ee w9 ⟨rfl, hp9⟩
        have HP9 := Lib.hid hp9
        clear hp9 HT
        go_wp2_with fail
        go_ret
        rw [HS.out]
        exact ⟨_, rfl, (HR8.out.call strOk hN hRN HP8.out HP9.out).done strOk (by rw [List.length_append, List.length_singleton]; omega), HP8.out.trans HP9.out⟩
      | false =>
        rw [hi] at HT HS
        simp only [reduceIte, Bool.false_eq_true] at HT HS
        clear hi
        go_wp2_with fail
        refine HT.mono ?_
        rintro ee w9 ⟨rfl, hp9⟩
        have HP9 := Lib.hid hp9
        clear hp9 HT
        go_wp2_with fail
        go_roundg j2
        case measure => omega
        case rel => exact sevRel_next (HR8.out.call strOk hN hRN HP8.out HP9.out) (HP8.out.trans HP9.out) HE.out HLL.out HX0.out HJ.out HS.out
    · have hne : ((s2.er : Int) == 0) = false := by rw [beq_eq_false_iff_ne]; omega
      have HS := Lib.hid (show RES = (xs, s2) by rw [← hres, moreM_bad e P he])
      obtain ⟨aL, cL, rfl, hcL, _⟩ := fresh_row HROW.out.own
      clear hres hp2 hrow hbk he hx0 hx1 hj
      go_wp2_with fail
      go_ret
      rw [HS.out]
      exact ⟨_, rfl, HROW.out.done strOk (by have := HX1.out; omega), HPW.out⟩

end Go.Proofs.YtkahnlgedacppaaGreatDoor
/-
  sdl's parser: names with a sign between.
-/
namespace Go.Proofs.YtkahnlgedacppaaGreatDoor
open Go.RowKit

theorem nmsGo_fwd (z : Nat) (g : List UInt8) : ∀ (n : Nat) (s : Ms) (acc : List Nm), Fwd s (nmsGo z g n s acc).2
  | 0, s, _ => .refl s
  | n + 1, s, acc => by
    unfold nmsGo
    split
    · exact (Fwd.trans ⟨tl_le s, id⟩ (nmM_eats z _).fwd).trans (nmsGo_fwd z g n _ _)
    · exact .refl s
theorem nmsM_eats (z : Nat) (g : List UInt8) (s : Ms) : Eats s (nmsM z g s).2 := (nmM_eats z s).then (nmsGo_fwd z g _ _ _)
theorem own_one {w1 : World} {B : Nat} {x : Nm} (hx : x.length ≤ 2000000) (hB : B ≤ w1.heap.size) : OwnR StrE B 9 1 [x] [.string ⟨x.toArray⟩] (.slice (some ⟨w1.heap.size, 0, none⟩) 1 1) (w1.alloc (.cells #[.string ⟨x.toArray⟩] 9 (0, 0))) := by
  refine ⟨World.ownsRow_lit w1 #[.string ⟨x.toArray⟩] 1 hB (by decide) rfl, fun i y hy => ?_⟩
  have hi := (List.getElem?_eq_some_iff.1 hy).1
  simp at hi
  subst hi
  simp at hy
  subst hy
  exact ⟨[.string ⟨x.toArray⟩], rfl, fun k u hu => by simpa using hu, hx, rfl⟩
/-- What remains of the loop over names. -/
def NmRel (c : Cx) (w : World) (g : List UInt8) (RES : List Nm × Ms) (j : Nat) (v : Value) (wr : World) : Prop :=
  ∃ (s2 : Ms) (xs : List Nm) (cs : List Value), Pw c 0 s2 w wr ∧ s2.l.length < j ∧ xs.length + s2.l.length ≤ 8001 ∧ OwnR StrE w.heap.size 9 1 xs cs v wr ∧ nmsGo c.z g j s2 xs = RES

set_option maxHeartbeats 4000000 in
set_option maxRecDepth 100000 in
theorem sNames_any {c : Cs} {s : Ms} (g : List UInt8) (w : World) (h : Pv c 0 s w) : Calls Tryz.prog 140 #[.pointer (some ⟨c.Q, 0, none⟩), .string ⟨g.toArray⟩] w (RowAns StrE 1 c 0 w (nmsM c.z g s)) := by
  obtain ⟨i2, hi2, hz20, hz21, hz22⟩ := info_parts infoStrK
  have q00 := h.qs
  have l00 := h.ltQ
  have HC1 := pNm_any w h
  have HZ := nmM_size h
  have HRES := Lib.hid (show nmsM c.z g s = nmsGo c.z g ((nmM c.z s).2.l.length + 1) (nmM c.z s).2 [(nmM c.z s).1] from rfl)
  generalize nmsM c.z g s = RES at *
  generalize nmM c.z s = R1 at *
  obtain ⟨nm, s1⟩ := R1
  dsimp only at HC1 HZ HRES
  have HH := Lib.hid h
  have hN := h.hN
  have hRN := h.hR
  clear h
  go_enter Tryz.func140, Tryz.ntmps140
  go_wp2_with fail
  refine HC1.mono ?_
  rintro e w1 ⟨rfl, p1⟩
  have hl1 := p1.1.len
  have HP1 := Lib.hid (p1.below ((Below.refl _ w1).alloc (Nat.le_refl _) (.cells #[.string ⟨nm.toArray⟩] 9 (0, 0))))
  have HO1 := Lib.hid (own_one (w1 := w1) HZ p1.2.size)
  have HL1 := Lib.hid hl1
  clear p1 HC1 hl1 HZ
  go_wp2_with fail
  go_loopg [5] (s1.l.length + 1) (fun j v5 wr => NmRel c w g RES j v5 wr)
  case atStart => exact ⟨s1, [nm], _, HP1.out, Nat.lt_succ_self _, by have := HL1.out; rw [List.length_singleton]; omega, HO1.out, HRES.out.symm⟩
  case round =>
    obtain ⟨s2, xs, cs, hp2, hj, hx0, hrow, hres⟩ := hrel
    obtain ⟨j2, rfl⟩ : ∃ j', gk = j' + 1 := ⟨gk - 1, by omega⟩
    have qwr := hp2.1.qs
    have lwr := hp2.1.ltQ
    have HPW := Lib.hid hp2
    have HROW := Lib.hid hrow
    have HX0 := Lib.hid hx0
    have HT := pTakeSign_any g wr hp2.1
    have hsw := hp2.2.size
    have HS := Lib.hid (show RES = if isSg g (hdT s2.l) then nmsGo c.z g j2 (nmM c.z (tlM s2)).2 (xs ++ [(nmM c.z (tlM s2)).1]) else (xs, s2) by rw [← hres, nmsGo])
    have HLS := Lib.hid (show isSg g (hdT s2.l) = true → (nmM c.z (tlM s2)).2.l.length < s2.l.length from fun hi => by
      have h1 := tl_less (sgT_k hi)
      have h2 := (nmM_eats c.z (tlM s2)).le
      omega)
    have HJ := Lib.hid hj
    obtain ⟨aL, cL, rfl, hcL, _⟩ := fresh_row hrow.own
    clear hp2 hrow hres hx0 hj HL1 HRES HP1 HO1
    cases hi : isSg g (hdT s2.l) with
    | false =>
      rw [hi] at HT HS
      simp only [reduceIte, Bool.false_eq_true] at HT HS
      clear hi HLS
      go_wp2_with fail
      refine HT.mono ?_
      rintro ee w2 ⟨rfl, hp⟩
      have HP := Lib.hid hp
      clear hp HT
      go_wp2_with fail
      go_ret
      rw [HS.out]
      exact ⟨_, rfl, (HROW.out.call strOk hN hRN HPW.out HP.out).done strOk (by have := HX0.out; omega), HPW.out.trans HP.out⟩
    | true =>
      rw [hi] at HT HS
      simp only [reduceIte] at HT HS
      have HL3 := Lib.hid (HLS.out hi)
      clear hi HLS
      go_wp2_with fail
      refine HT.mono ?_
      rintro ee w2 ⟨rfl, hp⟩
      have qw2 := hp.1.qs
      have lw2 := hp.1.ltQ
      have hrow2 := HROW.out.call strOk hN hRN HPW.out hp
      have hpw2 := HPW.out.trans hp
      have hC := pNm_any w2 hp.1
      have hsx := nmM_size hp.1
      have hs2 := hp.2.size
      have HP2 := Lib.hid hpw2
      have HROW2 := Lib.hid hrow2
      generalize nmM c.z (tlM s2) = RV at *
      obtain ⟨x, s3⟩ := RV
      dsimp only at HS HL3 hsx
      clear hp hrow2 hpw2 HROW HPW HT
      go_wp2_with fail
      refine hC.mono ?_
      rintro ee w3 ⟨rfl, hp3⟩
      have hE' : StrE w3 (fun b => w2.heap.size ≤ b ∧ b < w3.heap.size) x [.string ⟨x.toArray⟩] := ⟨hsx, rfl⟩
      have HPR := Lib.hid (rec_new w3 1 #[.string ⟨x.toArray⟩] 9)
      have HONE := Lib.hid (strOk.one hE')
      have hA := HROW2.out.app strOk hN HP2.out hp3 hE' (.cells #[.string ⟨x.toArray⟩] 9 (0, 0))
      have HA := Lib.hid hA
      have HOW := Lib.hid hA.1.own
      have HZ := Lib.hid (show w.heap.size ≤ (w3.alloc (.cells #[.string ⟨x.toArray⟩] 9 (0, 0))).heap.size by rw [hA.2.2]; have := hp3.2.size; have := HP2.out.2.size; omega)
      have HZ2 := Lib.hid hA.2.2
      have HP3 := Lib.hid hp3
      clear hp3 hE' hA hC
      have hxm : xs.length ≤ 9000 := by have := HX0.out; omega
      go_wp2_with (at_builtin; refine wpList_append_lies _ rfl _ _ 41 rfl w.heap.size 9 i2 (.string ⟨#[]⟩) 1 16 Tryz.underlying41 hi2 hz20 hz21 hz22 rfl (by decide) (.slice aL xs.length cL) xs.length cs rfl HOW.out ⟨w3.heap.size, 0, none⟩ 1 1 [.string ⟨x.toArray⟩] rfl rfl HPR.out HONE.out (by decide) (by unfold maxLen; omega) (by omega) HZ.out (w3.heap.size + 1) HZ2.out ?_)
      intro g8 cap8 w8 hown8 hg8 hlie8 hl8
      obtain ⟨hrow8, hp8⟩ := app_done strOk HP2.out HP3.out HA.out hN hown8 hg8 (by
        rcases hlie8 with ea | ea
        · exact .inl ea.symm
        · exact .inr (by rw [HZ2.out, ea]; rfl))
      have HR8 := Lib.hid hrow8
      have HP8 := Lib.hid hp8
      clear hown8 hg8 hlie8 hrow8 hp8 HPR HONE HA HOW HZ HZ2 HP3
      go_wp2_with fail
      go_roundg j2
      case measure => omega
      case rel => exact ⟨s3, xs ++ [x], _, HP8.out, by have := HL3.out; have := HJ.out; omega, by have := HL3.out; have := HX0.out; rw [List.length_append, List.length_singleton]; omega, HR8.out, HS.out.symm⟩

end Go.Proofs.YtkahnlgedacppaaGreatDoor
/-
  sdl's parser: the schema as it grows.
-/
namespace Go.Proofs.YtkahnlgedacppaaGreatDoor
open Go.RowKit Go.Maps Go.WideMaps

/-- The holder: cursor, roots, types, map. -/
def sdO (R : Nat) (x : SchT) (vt : Value) (M : Nat) : Obj := .cells #[.pointer (some ⟨R, 0, none⟩), .string ⟨x.qu.toArray⟩, .string ⟨x.mu.toArray⟩, vt, .map (some M)] 100 (0, 0)
/-- A method that is bound to the parser in block Q, by its number; or none. -/
def fnR (Q : Nat) (v : Value) : Option (DataW Unit × List MemPlace) :=
  match v with
  | .func (.func n) f g => match f.toList, g.toList with
    | [.pointer (some ⟨B, 0, none⟩)], [] => if B = Q then some (.lit (.int .i64 (n : Int)), []) else none
    | _, _ => none
  | .nilFunc => some (.lit (.bool false), [])
  | _ => none
theorem fnR_mk (Q n : Nat) : fnR Q (.func (.func n) #[.pointer (some ⟨Q, 0, none⟩)] #[]) = some (.lit (.int .i64 (n : Int)), []) := by
  show (if Q = Q then _ else _) = _
  rw [if_pos rfl]
theorem fnR_inv {Q n : Nat} {v : Value} {ps : List MemPlace} (h : fnR Q v = some (.lit (.int .i64 (n : Int)), ps)) : v = .func (.func n) #[.pointer (some ⟨Q, 0, none⟩)] #[] := by
  unfold fnR at h
  split at h
  · rename_i m f g
    split at h
    · rename_i B hf hg
      split at h
      · rename_i hB
        have h1 := Option.some.inj h
        have h2 := congrArg Prod.fst h1
        dsimp only at h2
        injection h2 with h2
        injection h2 with _ h2
        have hm : m = n := Int.ofNat.inj h2
        subst hm hB
        have e1 : f = #[.pointer (some ⟨B, 0, none⟩)] := by rw [← Array.toArray_toList (xs := f), hf]
        have e2 : g = #[] := by rw [← Array.toArray_toList (xs := g), hg]
        rw [e1, e2]
      · cases h
    · cases h
  · have h1 := Option.some.inj h
    have h2 := congrArg Prod.fst h1
    dsimp only at h2
    injection h2 with h2
    cases h2
  · cases h

def fnL (n : Nat) : DataW Unit := .lit (.int .i64 (n : Int))
def mapD7 : DataW Unit := ((((((((DataW.map []).put (.string schemaS) (fnL 84)).put (.string scalarS) (fnL 85)).put (.string typeS) (fnL 86)).put (.string faceS) (fnL 87)).put (.string unionS) (fnL 88)).put (.string enumS) (fnL 89)).put (.string inputS) (fnL 90))
/-- What the words mean; b: may the roots still be told? -/
def mapD (b : Bool) : DataW Unit := if b then mapD7 else mapD7.del (.string schemaS)

/-- What stays through a parse. -/
structure SdB where
  c : Cx
  M : Nat
  n : Nat
  hT : c.T = fun t => !(t.k == 2) || intOk t.s
  hJ : c.J = EvOk
  hM : c.N ≤ M
  hnR : n ≤ c.R
  hnQ : n ≤ c.Q
  hnN : n ≤ c.N
abbrev SdB.cs (B : SdB) (x : SchT) (vt : Value) : Cs := ⟨{ B.c with q := fun _ => sdO B.c.R x vt B.M }, ⟨_, _, _, _, rfl⟩, B.hT⟩

structure Sx (B : SdB) (b : Bool) (x : SchT) (s : Ms) (vt : Value) (ct : List Value) (W : World) : Prop where
  p : Pv (B.cs x vt).toCx 0 s W
  row : OwnR TypE (B.M + 1) 45 5 x.types ct vt W
  map : W.ownsMap Tryz.prog 9 (fnR B.c.Q) B.M 7 (mapD b)
  len : x.types.length + s.l.length ≤ 8001
  hu : x.qu.length ≤ 2000000 ∧ x.mu.length ≤ 2000000

theorem ownsMap_block {H : Type} {P : Program} {k : TypeId} {R : Value → Option (DataW H × List MemPlace)} {b n : Nat} {D : DataW H} {w w' : World} (h : w.ownsMap P k R b n D) (hb : w'.heap[b]? = w.heap[b]?) : w'.ownsMap P k R b n D := by
  obtain ⟨es, clock, e, r⟩ := h
  exact ⟨es, clock, hb.trans e, r⟩
theorem Sx.blk {B : SdB} {b : Bool} {x : SchT} {s : Ms} {vt : Value} {ct : List Value} {W : World} (h : Sx B b x s vt ct W) : W.heap[B.c.Q]? = some (sdO B.c.R x vt B.M) := h.p.qk
/-- A call that moves the cursor alone. -/
theorem Sx.call {B : SdB} {b : Bool} {x : SchT} {s s' : Ms} {vt : Value} {ct : List Value} {W W' : World} (h : Sx B b x s vt ct W) (hp : Pw (B.cs x vt).toCx 0 s' W W') (hl : s'.l.length ≤ s.l.length) : Sx B b x s' vt ct W' ∧ Below B.n W W' := by
  have hR : B.c.R < B.c.N := h.p.hR
  have hM := B.hM
  have hMl := h.map.lt
  have hN : B.c.N ≤ W.heap.size := h.p.hN
  have hn := B.hnN
  have hnR := B.hnR
  refine ⟨⟨hp.1, h.row.keep typOk (fun b hb hl => hp.2.block b hl (by show b ≠ B.c.R; omega)) hp.2.size, ownsMap_block h.map (hp.2.block _ hMl (by show B.M ≠ B.c.R; omega)), by have := h.len; omega, h.hu⟩, ?_⟩
  exact ⟨hp.2.os, hp.2.tape, hp.2.output, hp.2.size, fun b hb => hp.2.block b (by omega) (by show b ≠ B.c.R; omega)⟩
theorem Sx.below {B : SdB} {b : Bool} {x : SchT} {s : Ms} {vt : Value} {ct : List Value} {W W' : World} (h : Sx B b x s vt ct W) (hb : Below W.heap.size W W') : Sx B b x s vt ct W' ∧ Below B.n W W' := h.call (.of h.p hb) (Nat.le_refl _)
/-- Another holder's block. -/
theorem Pv.reheld {B : SdB} {x x' : SchT} {vt vt' : Value} {s : Ms} {w w' : World} (h : Pv (B.cs x vt).toCx 0 s w) (hb : w'.heap[B.c.Q]? = some (sdO B.c.R x' vt' B.M)) (ho : ∀ b, b < B.c.N → b ≠ B.c.Q → w'.heap[b]? = w.heap[b]?) (hN : B.c.N ≤ w'.heap.size) : Pv (B.cs x' vt').toCx 0 s w' := by
  refine ⟨?_, h.bad, fun h0 => ?_, h.tn, hb, hN, h.hR, h.hQ, h.hRQ, h.hc, h.hs, h.hz, h.hk, h.sz, h.hJ w w' (fun b hl => by
    have h1 : B.c.N0 ≤ B.c.Q := h.hJQ
    have h2 : B.c.Q < B.c.N := h.hQ
    have h3 : b < B.c.N0 := hl
    exact ho b (by omega) (by omega)) h.j, h.hJ, h.hJR, h.hJQ, h.ht⟩
  · obtain ⟨m, p, h1, h2⟩ := h.bk
    exact ⟨m, p, (ho _ h.hR (Ne.symm h.hRQ)).trans h1, h2⟩
  · obtain ⟨g, e, hg, hgq, hl, hcell⟩ := h.tk h0
    exact ⟨g, e, hg, hgq, hl, fun j u hj => (World.cell?_of_block (a := ⟨g, j, none⟩) (ho g hl hgq)).trans (hcell j u hj)⟩
/-- The holder's block has been written, nothing else. -/
theorem Sx.held {B : SdB} {b : Bool} {x x' : SchT} {s : Ms} {vt : Value} {ct : List Value} {W W' : World} (h : Sx B b x s vt ct W) (ht : x'.types = x.types) (hu : x'.qu.length ≤ 2000000 ∧ x'.mu.length ≤ 2000000) (hb : W'.heap[B.c.Q]? = some (sdO B.c.R x' vt B.M)) (ho : ∀ b, b ≠ B.c.Q → W'.heap[b]? = W.heap[b]?) (hz : W'.heap.size = W.heap.size) (hos : W'.os = W.os ∧ W'.tape = W.tape ∧ W'.output = W.output) : Sx B b x' s vt ct W' ∧ Below B.n W W' := by
  have hQ : B.c.Q < B.c.N := h.p.hQ
  have hM := B.hM
  have hN : B.c.N ≤ W.heap.size := h.p.hN
  have hnQ := B.hnQ
  refine ⟨⟨h.p.reheld hb (fun b _ hne => ho b hne) (by omega), ?_, ownsMap_block h.map (ho _ (by omega)), by rw [ht]; exact h.len, hu⟩, ⟨hos.1, hos.2.1, hos.2.2, by omega, fun b hb => ho b (by omega)⟩⟩
  rw [ht]
  exact h.row.keep typOk (fun b hb _ => ho b (by omega)) (by omega)
/-- The row has grown by one type, and has been stored. -/
theorem Sx.added {B : SdB} {b : Bool} {x : SchT} {s : Ms} {vt v' : Value} {ct es : List Value} {X w8 : World} {t : TypT} (h : Sx B b x s vt ct X) (hE : TypE X (OD (B.M + 1) X vt) t es) (hl : x.types.length + 1 + s.l.length ≤ 8001) (hown : w8.ownsRow (B.M + 1) 45 5 v' (x.types.length + 1) (ct ++ es)) (hg : X.grownBy w8 vt.ownBlock) (hlie : v'.ownBlock = vt.ownBlock ∨ v'.ownBlock = some X.heap.size) :
    w8.heap[B.c.Q]? = some (sdO B.c.R x vt B.M) ∧ Sx B b ⟨x.qu, x.mu, x.types ++ [t]⟩ s v' (ct ++ es) (w8.setCell ⟨B.c.Q, 3, none⟩ v') ∧ Below B.n X (w8.setCell ⟨B.c.Q, 3, none⟩ v') := by
  have hQ : B.c.Q < B.c.N := h.p.hQ
  have hM := B.hM
  have hMl := h.map.lt
  have hN : B.c.N ≤ X.heap.size := h.p.hN
  have hnQ := B.hnQ
  have hz := hg.size
  have hblk : ∀ b, b ≤ B.M → w8.heap[b]? = X.heap[b]? := fun b hb => hg.block b (by omega) (fun e => by
    have := (h.row.own.lt b (by first | exact e | exact e.symm)).1
    omega)
  have hq8 : w8.heap[B.c.Q]? = some (sdO B.c.R x vt B.M) := (hblk _ (by omega)).trans h.blk
  have hs : (w8.setCell ⟨B.c.Q, 3, none⟩ v').heap.size = w8.heap.size := by simp [World.setCell]
  have ho : ∀ b, b ≠ B.c.Q → (w8.setCell ⟨B.c.Q, 3, none⟩ v').heap[b]? = w8.heap[b]? := fun b hb => Below.heap_setCell _ _ _ _ hb
  refine ⟨hq8, ⟨h.p.reheld (x' := ⟨x.qu, x.mu, x.types ++ [t]⟩) (vt' := v') ?_ (fun b hb hne => (ho b hne).trans (hblk b (by omega))) (by omega), (h.row.snoc typOk hE hown hg hlie).keep typOk (fun b hb _ => ho b (by omega)) (by omega), ownsMap_block (ownsMap_block h.map (hblk _ (Nat.le_refl _))) (ho _ (by omega)), by show (x.types ++ [t]).length + _ ≤ _; rw [List.length_append, List.length_singleton]; exact hl, h.hu⟩, ?_⟩
  · rw [Lib.heap_setCell_same hq8]; rfl
  · exact ⟨hg.os, hg.tape, hg.output, by omega, fun b hb => (ho b (by omega)).trans (hblk b (by omega))⟩

end Go.Proofs.YtkahnlgedacppaaGreatDoor
