/-
  sdl's parser: an enum.
-/
import Derived.Test.YtkahnlgedacppaaGreatDoorMSkUnion
namespace Go.Proofs.YtkahnlgedacppaaGreatDoor
open Go.RowKit Go.Maps

set_option maxHeartbeats 8000000 in
set_option maxRecDepth 100000 in
theorem sEnums_any {B : SdB} {b : Bool} {x : SchT} {s : Ms} {vt : Value} {ct : List Value} (W : World) (h : Sx B b x s vt ct W) (hl : x.types.length + 1 + s.l.length ≤ 8001) :
    Calls Tryz.prog 89 #[.pointer (some ⟨B.c.Q, 0, none⟩)] W (SxAns B b (addT x (enuM B.c.z s)) W) := by
  obtain ⟨q00, -, -, -, -, -, l00⟩ := blk5s h.blk
  have HC1 := pNm_any W h.p
  have HZ := Lib.hid (nmM_size h.p)
  have HLE := Lib.hid (enuM_fwd B.c.z s).le
  dsimp only [SdB.cs] at HC1 HZ
  have HH := Lib.hid h
  have HL := Lib.hid hl
  have HM := Lib.hid (show addT x (enuM B.c.z s) = (⟨x.qu, x.mu, x.types ++ [⟨5, (nmM B.c.z s).1, (svM B.c.z [123] [125] (deM B.c.z) (nmM B.c.z s).2).1, [], []⟩]⟩, (svM B.c.z [123] [125] (deM B.c.z) (nmM B.c.z s).2).2) from rfl)
  rw [show (enuM B.c.z s).2 = (svM B.c.z [123] [125] (deM B.c.z) (nmM B.c.z s).2).2 from rfl] at HLE
  generalize nmM B.c.z s = R1 at *
  obtain ⟨nm, s1⟩ := R1
  dsimp only at HC1 HZ HM HLE
  clear h hl
  go_enter Tryz.func89, Tryz.ntmps89
  go_wp2_with fail
  refine HC1.mono ?_
  rintro e w1 ⟨rfl, p1⟩
  have L1 := Lb.new p1.1 45 #[.int .i64 5, .string ⟨nm.toArray⟩, .slice none 0 0, .slice none 0 0, .slice none 0 0]
  have qw1 := Pv.qs (c := B.cs x vt) p1.1
  have lw1 := p1.1.ltQ
  dsimp only [SdB.cs] at qw1 lw1
  have hQg : B.c.Q ≠ w1.heap.size := by omega
  have HP1 := Lib.hid p1
  clear HC1 p1
  have HC3 := sevStr_any [123] [125] (deM B.c.z) _ L1.p.1 (fun s' W h' => sDescr_any (c := B.cs x vt) W h') (fun s' W h' => deM_size (c := (B.cs x vt).toCx) h') (fun s' _ h2 => (deM_eats B.c.z s').lt h2)
  dsimp only [SdB.cs] at HC3
  have HLA := Lib.hid L1
  generalize svM B.c.z [123] [125] (deM B.c.z) s1 = RP at *
  obtain ⟨ps, s4⟩ := RP
  dsimp only at HM HLE
  clear L1
  go_wp2_with fail
  refine HC3.mono ?_
  rintro e w3 ⟨v, rfl, hR, p3⟩
  dsimp only at hR p3
  have qw3 := Pv.qs (c := B.cs x vt) p3.1
  have lw3 := p3.1.ltQ
  dsimp only [SdB.cs] at qw3 lw3
  have L3 := HLA.out.call2 p3
  have hd := RowD.step (D' := Dg w1 w1.heap.size w3) (w' := w3) strOk (dgb_of HLA.out) (fun _ _ _ => rfl) hR
  obtain ⟨va, vc, rfl⟩ := hR.shape
  have T3 := L3.1.fin2 2 (.slice va ps.length vc)
  have hd3 := T3.2.row strOk hd
  obtain ⟨b0, b1, b2, b3, b4, bf, bl⟩ := blk5 L3.1.h0
  have hx3 := HH.out.toAdd HP1.out T3.1 HLE.out
  have HADD := sAdd_any (t := ⟨5, nm, ps, [], []⟩) (an := va) (cn := vc) (af := none) (cf := 0) (ai := none) (ci := 0) _ hx3.1 (by have := HL.out; have := HLE.out; omega) ⟨HZ.out, _, _, _, rfl, (RowD.step strOk hx3.2.2 (fun _ _ _ => rfl) hd3), .nil, .nil⟩
  dsimp only at HADD
  rw [show ((5 : Nat) : Int) = 5 from rfl] at HADD
  have HB1 := Lib.hid hx3.2.1
  clear p3 hx3 HC3 hd hd3 L3 T3 HLA hR
  go_wp2_with fail
  refine HADD.mono ?_
  rintro e w4 ⟨rfl, hst, hb4⟩
  have HX := Lib.hid hst
  have HB := Lib.hid (HB1.out.trans hb4)
  clear hst hb4 HADD
  go_wp2_with fail
  go_end0
  rw [HM.out]
  exact ⟨rfl, HX.out, HB.out⟩

end Go.Proofs.YtkahnlgedacppaaGreatDoor
/-
  sdl's parser: an input.
-/
namespace Go.Proofs.YtkahnlgedacppaaGreatDoor
open Go.RowKit Go.Maps

set_option maxHeartbeats 8000000 in
set_option maxRecDepth 100000 in
theorem sInputs_any {B : SdB} {b : Bool} {x : SchT} {s : Ms} {vt : Value} {ct : List Value} (W : World) (h : Sx B b x s vt ct W) (hl : x.types.length + 1 + s.l.length ≤ 8001) :
    Calls Tryz.prog 90 #[.pointer (some ⟨B.c.Q, 0, none⟩)] W (SxAns B b (addT x (iptM B.c.z s)) W) := by
  obtain ⟨q00, -, -, -, -, -, l00⟩ := blk5s h.blk
  have HC1 := pNm_any W h.p
  have HZ := Lib.hid (nmM_size h.p)
  have HLE := Lib.hid (iptM_fwd B.c.z s).le
  dsimp only [SdB.cs] at HC1 HZ
  have HH := Lib.hid h
  have HL := Lib.hid hl
  have HM := Lib.hid (show addT x (iptM B.c.z s) = (⟨x.qu, x.mu, x.types ++ [⟨6, (nmM B.c.z s).1, [], [], (svM B.c.z [123] [125] (inpM B.c.z) (nmM B.c.z s).2).1⟩]⟩, (svM B.c.z [123] [125] (inpM B.c.z) (nmM B.c.z s).2).2) from rfl)
  rw [show (iptM B.c.z s).2 = (svM B.c.z [123] [125] (inpM B.c.z) (nmM B.c.z s).2).2 from rfl] at HLE
  generalize nmM B.c.z s = R1 at *
  obtain ⟨nm, s1⟩ := R1
  dsimp only at HC1 HZ HM HLE
  clear h hl
  go_enter Tryz.func90, Tryz.ntmps90
  go_wp2_with fail
  refine HC1.mono ?_
  rintro e w1 ⟨rfl, p1⟩
  have L1 := Lb.new p1.1 45 #[.int .i64 6, .string ⟨nm.toArray⟩, .slice none 0 0, .slice none 0 0, .slice none 0 0]
  have qw1 := Pv.qs (c := B.cs x vt) p1.1
  have lw1 := p1.1.ltQ
  dsimp only [SdB.cs] at qw1 lw1
  have hQg : B.c.Q ≠ w1.heap.size := by omega
  have HP1 := Lib.hid p1
  clear HC1 p1
  have HC3 := sevInp_any [123] [125] (inpM B.c.z) _ L1.p.1 (fun s' W h' => sInput_any (c := B.cs x vt) W h') (fun s' _ h2 => (inpM_eats B.c.z s').lt h2)
  dsimp only [SdB.cs] at HC3
  have HLA := Lib.hid L1
  generalize svM B.c.z [123] [125] (inpM B.c.z) s1 = RP at *
  obtain ⟨ps, s4⟩ := RP
  dsimp only at HM HLE
  clear L1
  go_wp2_with fail
  refine HC3.mono ?_
  rintro e w3 ⟨v, rfl, hR, p3⟩
  dsimp only at hR p3
  have qw3 := Pv.qs (c := B.cs x vt) p3.1
  have lw3 := p3.1.ltQ
  dsimp only [SdB.cs] at qw3 lw3
  have L3 := HLA.out.call2 p3
  have hd := RowD.step (D' := Dg w1 w1.heap.size w3) (w' := w3) varOk (dgb_of HLA.out) (fun _ _ _ => rfl) hR
  obtain ⟨va, vc, rfl⟩ := hR.shape
  have T3 := L3.1.fin2 4 (.slice va ps.length vc)
  have hd3 := T3.2.row varOk hd
  obtain ⟨b0, b1, b2, b3, b4, bf, bl⟩ := blk5 L3.1.h0
  have hx3 := HH.out.toAdd HP1.out T3.1 HLE.out
  have HADD := sAdd_any (t := ⟨6, nm, [], [], ps⟩) (an := none) (cn := 0) (af := none) (cf := 0) (ai := va) (ci := vc) _ hx3.1 (by have := HL.out; have := HLE.out; omega) ⟨HZ.out, _, _, _, rfl, .nil, .nil, (RowD.step varOk hx3.2.2 (fun _ _ _ => rfl) hd3)⟩
  dsimp only at HADD
  rw [show ((6 : Nat) : Int) = 6 from rfl] at HADD
  have HB1 := Lib.hid hx3.2.1
  clear p3 hx3 HC3 hd hd3 L3 T3 HLA hR
  go_wp2_with fail
  refine HADD.mono ?_
  rintro e w4 ⟨rfl, hst, hb4⟩
  have HX := Lib.hid hst
  have HB := Lib.hid (HB1.out.trans hb4)
  clear hst hb4 HADD
  go_wp2_with fail
  go_end0
  rw [HM.out]
  exact ⟨rfl, HX.out, HB.out⟩

end Go.Proofs.YtkahnlgedacppaaGreatDoor
/-
  sdl's parser: a definition.
-/
namespace Go.Proofs.YtkahnlgedacppaaGreatDoor
open Go.RowKit Go.Maps Go.WideMaps

theorem zeroF (w : World) : (zeroValue 1).run Tryz.prog w = .ok .nilFunc w := by kernel_rfl
theorem at_schema : (mapD true).atKey (.string schemaS) (.lit (.bool false)) = fnL 84 ∧ Maps.has (mapD true) (.string schemaS) = true := ⟨by kernel_rfl, by kernel_rfl⟩
theorem no_schema : Maps.has (mapD false) (.string schemaS) = false := by kernel_rfl
theorem at_scalarS (b : Bool) : (mapD b).atKey (.string scalarS) (.lit (.bool false)) = fnL 85 ∧ Maps.has (mapD b) (.string scalarS) = true := by
  cases b
  · exact ⟨by kernel_rfl, by kernel_rfl⟩
  · exact ⟨by kernel_rfl, by kernel_rfl⟩
theorem sdf_scalarS (z : Nat) (b : Bool) (x : SchT) (s : Ms) (h : nxN (hdT (txM s).l) = scalarS) : sdfM z b x s = (((addT x (sclM z (tlM (txM s)))).1, b), (addT x (sclM z (tlM (txM s)))).2) := by
  unfold sdfM
  dsimp only
  rw [h]
  cases b <;> rfl
theorem at_typeS (b : Bool) : (mapD b).atKey (.string typeS) (.lit (.bool false)) = fnL 86 ∧ Maps.has (mapD b) (.string typeS) = true := by
  cases b
  · exact ⟨by kernel_rfl, by kernel_rfl⟩
  · exact ⟨by kernel_rfl, by kernel_rfl⟩
theorem sdf_typeS (z : Nat) (b : Bool) (x : SchT) (s : Ms) (h : nxN (hdT (txM s).l) = typeS) : sdfM z b x s = (((addT x (objM z (tlM (txM s)))).1, b), (addT x (objM z (tlM (txM s)))).2) := by
  unfold sdfM
  dsimp only
  rw [h]
  cases b <;> rfl
theorem at_faceS (b : Bool) : (mapD b).atKey (.string faceS) (.lit (.bool false)) = fnL 87 ∧ Maps.has (mapD b) (.string faceS) = true := by
  cases b
  · exact ⟨by kernel_rfl, by kernel_rfl⟩
  · exact ⟨by kernel_rfl, by kernel_rfl⟩
theorem sdf_faceS (z : Nat) (b : Bool) (x : SchT) (s : Ms) (h : nxN (hdT (txM s).l) = faceS) : sdfM z b x s = (((addT x (facM z (tlM (txM s)))).1, b), (addT x (facM z (tlM (txM s)))).2) := by
  unfold sdfM
  dsimp only
  rw [h]
  cases b <;> rfl
theorem at_unionS (b : Bool) : (mapD b).atKey (.string unionS) (.lit (.bool false)) = fnL 88 ∧ Maps.has (mapD b) (.string unionS) = true := by
  cases b
  · exact ⟨by kernel_rfl, by kernel_rfl⟩
  · exact ⟨by kernel_rfl, by kernel_rfl⟩
theorem sdf_unionS (z : Nat) (b : Bool) (x : SchT) (s : Ms) (h : nxN (hdT (txM s).l) = unionS) : sdfM z b x s = (((addT x (uniM z (tlM (txM s)))).1, b), (addT x (uniM z (tlM (txM s)))).2) := by
  unfold sdfM
  dsimp only
  rw [h]
  cases b <;> rfl
theorem at_enumS (b : Bool) : (mapD b).atKey (.string enumS) (.lit (.bool false)) = fnL 89 ∧ Maps.has (mapD b) (.string enumS) = true := by
  cases b
  · exact ⟨by kernel_rfl, by kernel_rfl⟩
  · exact ⟨by kernel_rfl, by kernel_rfl⟩
theorem sdf_enumS (z : Nat) (b : Bool) (x : SchT) (s : Ms) (h : nxN (hdT (txM s).l) = enumS) : sdfM z b x s = (((addT x (enuM z (tlM (txM s)))).1, b), (addT x (enuM z (tlM (txM s)))).2) := by
  unfold sdfM
  dsimp only
  rw [h]
  cases b <;> rfl
theorem at_inputS (b : Bool) : (mapD b).atKey (.string inputS) (.lit (.bool false)) = fnL 90 ∧ Maps.has (mapD b) (.string inputS) = true := by
  cases b
  · exact ⟨by kernel_rfl, by kernel_rfl⟩
  · exact ⟨by kernel_rfl, by kernel_rfl⟩
theorem sdf_inputS (z : Nat) (b : Bool) (x : SchT) (s : Ms) (h : nxN (hdT (txM s).l) = inputS) : sdfM z b x s = (((addT x (iptM z (tlM (txM s)))).1, b), (addT x (iptM z (tlM (txM s)))).2) := by
  unfold sdfM
  dsimp only
  rw [h]
  cases b <;> rfl
theorem sdf_schema (z : Nat) (x : SchT) (s : Ms) (h : nxN (hdT (txM s).l) = schemaS) : sdfM z true x s = (((rooM z x (tlM (txM s))).1, false), (rooM z x (tlM (txM s))).2) := by
  unfold sdfM
  dsimp only
  rw [h]; rfl
theorem sdf_none (z : Nat) (b : Bool) (x : SchT) (s : Ms) (h : nxN (hdT (txM s).l) = schemaS → b = false) (h1 : nxN (hdT (txM s).l) ≠ scalarS) (h2 : nxN (hdT (txM s).l) ≠ typeS) (h3 : nxN (hdT (txM s).l) ≠ faceS) (h4 : nxN (hdT (txM s).l) ≠ unionS) (h5 : nxN (hdT (txM s).l) ≠ enumS) (h6 : nxN (hdT (txM s).l) ≠ inputS) : sdfM z b x s = ((x, b), failM z 2 (txM s)) := by
  unfold sdfM
  dsimp only
  have e0 : (nxN (hdT (txM s).l) == schemaS && b) = false := by
    by_cases hs : nxN (hdT (txM s).l) = schemaS
    · rw [h hs, Bool.and_false]
    · rw [show (nxN (hdT (txM s).l) == schemaS) = false by simpa using hs, Bool.false_and]
  rw [e0, show (nxN (hdT (txM s).l) == scalarS) = false by simpa using h1, show (nxN (hdT (txM s).l) == typeS) = false by simpa using h2, show (nxN (hdT (txM s).l) == faceS) = false by simpa using h3, show (nxN (hdT (txM s).l) == unionS) = false by simpa using h4, show (nxN (hdT (txM s).l) == enumS) = false by simpa using h5, show (nxN (hdT (txM s).l) == inputS) = false by simpa using h6]
  rfl
theorem lit_ne {a b : List UInt8} (h : a ≠ b) : Lit.string a ≠ Lit.string b := fun e => h (by injection e)
theorem has_none (b : Bool) (n : List UInt8) (h : n = schemaS → b = false) (h1 : n ≠ scalarS) (h2 : n ≠ typeS) (h3 : n ≠ faceS) (h4 : n ≠ unionS) (h5 : n ≠ enumS) (h6 : n ≠ inputS) : Maps.has (mapD b) (.string n) = false := by
  by_cases hs : n = schemaS
  · rw [h hs, hs]; exact no_schema
  · have h7 : Maps.has mapD7 (.string n) = false := by
      unfold mapD7
      rw [has_put_other (lit_ne h6), has_put_other (lit_ne h5), has_put_other (lit_ne h4), has_put_other (lit_ne h3), has_put_other (lit_ne h2), has_put_other (lit_ne h1), has_put_other (lit_ne hs)]
      rfl
    cases b with
    | true => exact h7
    | false =>
      show Maps.has (mapD7.del (.string schemaS)) (.string n) = false
      rw [has_del_other (lit_ne hs)]
      exact h7
theorem wd_tl (z : Nat) {g : List UInt8} (hg : g ≠ []) {s : Ms} (h : nxN (hdT s.l) = g) : wdM z g s = tlM s ∧ (tlM s).l.length < s.l.length := by
  have h1 : isWd g (hdT s.l) = true := by rw [← nxN_wd hg, h]; simp
  exact ⟨by unfold wdM; rw [if_pos h1], tl_less (wdT_k h1)⟩

set_option maxHeartbeats 8000000 in
set_option maxRecDepth 100000 in
theorem sDefScalar {B : SdB} {b : Bool} {x : SchT} {s : Ms} {vt : Value} {ct : List Value} (W : World) (h : Sx B b x s vt ct W) (hw : nxN (hdT (txM s).l) = scalarS) :
    Calls Tryz.prog 91 #[.pointer (some ⟨B.c.Q, 0, none⟩)] W (SxAns B b (addT x (sclM B.c.z (tlM (txM s)))) W) := by
  obtain ⟨q0, -, -, -, q4, -, l00⟩ := blk5s h.blk
  have HC1 := cTakeText_any W h.p
  dsimp only [SdB.cs] at HC1
  rw [show (if ((hdT s.l).k == 4) = true then tlM s else s) = txM s from rfl] at HC1
  have HH := Lib.hid h
  have HE1 := Lib.hid (txM_fwd s).le
  have hkey : keyOf Tryz.prog 9 (.string ⟨scalarS.toArray⟩) = some (.string scalarS) := keyOf_string_mk Tryz.underlying9 (by decide)
  obtain ⟨hwd, htl⟩ := wd_tl B.c.z (g := scalarS) (by decide) hw
  have HT := Lib.hid htl
  generalize txM s = s0 at *
  generalize ((hdT s.l).k == 4) = bt at *
  clear h
  go_enter Tryz.func91, Tryz.ntmps91
  go_wp2_with fail
  refine HC1.mono ?_
  rintro e w1 ⟨rfl, p1⟩
  have T1 := HH.out.call p1 HE1.out
  obtain ⟨q01, -, -, -, -, -, l01⟩ := blk5s T1.1.blk
  have HC2 := cNext_any w1 T1.1.p
  rw [hw] at HC2
  dsimp only [SdB.cs] at HC2
  have HT1 := Lib.hid T1
  clear T1 p1 HC1
  go_wp2_with fail
  refine HC2.mono ?_
  rintro e w2 ⟨rfl, b2⟩
  have T2 := HT1.out.1.below b2
  obtain ⟨q02, -, -, -, q42, -, l02⟩ := blk5s T2.1.blk
  have hown := T2.1.map
  have HC3 := pMustWord_any scalarS (by decide) w2 T2.1.p
  dsimp only [SdB.cs] at HC3
  rw [hwd] at HC3
  have HT2 := Lib.hid (And.intro T2.1 (HT1.out.2.trans T2.2))
  clear T2 b2 HC2 HT1 hwd hw
  go_wp2_with (at_lookup; refine wpList_lookup_own_ok _ rfl _ _ 98 rfl 9 1 lawK Tryz.underlying98 (fnR B.c.Q) (z := .nilFunc) (zeroF _) (.lit (.bool false)) [] rfl B.M 7 (mapD b) rfl hown _ _ rfl hkey ?_; intro v ps hv; rw [(at_scalarS b).1] at hv; obtain rfl := fnR_inv hv; rw [(at_scalarS b).2])
  refine HC3.mono ?_
  rintro e w3 ⟨rfl, p3⟩
  have T3 := HT2.out.1.call p3 (Nat.le_of_lt HT.out)
  have HK := sScalar_any w3 T3.1 (by have := HH.out.len; have := HT.out; have := HE1.out; omega)
  have HT3 := Lib.hid (HT2.out.2.trans T3.2)
  clear T3 p3 HC3 HT2
  go_wp2_with fail
  refine HK.mono ?_
  rintro e w4 ⟨rfl, hst, b4⟩
  have HX := Lib.hid hst
  have HB := Lib.hid (HT3.out.trans b4)
  clear hst b4 HK
  go_wp2_with fail
  go_end0
  exact ⟨rfl, HX.out, HB.out⟩

set_option maxHeartbeats 8000000 in
set_option maxRecDepth 100000 in
theorem sDefObject {B : SdB} {b : Bool} {x : SchT} {s : Ms} {vt : Value} {ct : List Value} (W : World) (h : Sx B b x s vt ct W) (hw : nxN (hdT (txM s).l) = typeS) :
    Calls Tryz.prog 91 #[.pointer (some ⟨B.c.Q, 0, none⟩)] W (SxAns B b (addT x (objM B.c.z (tlM (txM s)))) W) := by
  obtain ⟨q0, -, -, -, q4, -, l00⟩ := blk5s h.blk
  have HC1 := cTakeText_any W h.p
  dsimp only [SdB.cs] at HC1
  rw [show (if ((hdT s.l).k == 4) = true then tlM s else s) = txM s from rfl] at HC1
  have HH := Lib.hid h
  have HE1 := Lib.hid (txM_fwd s).le
  have hkey : keyOf Tryz.prog 9 (.string ⟨typeS.toArray⟩) = some (.string typeS) := keyOf_string_mk Tryz.underlying9 (by decide)
  obtain ⟨hwd, htl⟩ := wd_tl B.c.z (g := typeS) (by decide) hw
  have HT := Lib.hid htl
  generalize txM s = s0 at *
  generalize ((hdT s.l).k == 4) = bt at *
  clear h
  go_enter Tryz.func91, Tryz.ntmps91
  go_wp2_with fail
  refine HC1.mono ?_
  rintro e w1 ⟨rfl, p1⟩
  have T1 := HH.out.call p1 HE1.out
  obtain ⟨q01, -, -, -, -, -, l01⟩ := blk5s T1.1.blk
  have HC2 := cNext_any w1 T1.1.p
  rw [hw] at HC2
  dsimp only [SdB.cs] at HC2
  have HT1 := Lib.hid T1
  clear T1 p1 HC1
  go_wp2_with fail
  refine HC2.mono ?_
  rintro e w2 ⟨rfl, b2⟩
  have T2 := HT1.out.1.below b2
  obtain ⟨q02, -, -, -, q42, -, l02⟩ := blk5s T2.1.blk
  have hown := T2.1.map
  have HC3 := pMustWord_any typeS (by decide) w2 T2.1.p
  dsimp only [SdB.cs] at HC3
  rw [hwd] at HC3
  have HT2 := Lib.hid (And.intro T2.1 (HT1.out.2.trans T2.2))
  clear T2 b2 HC2 HT1 hwd hw
  go_wp2_with (at_lookup; refine wpList_lookup_own_ok _ rfl _ _ 98 rfl 9 1 lawK Tryz.underlying98 (fnR B.c.Q) (z := .nilFunc) (zeroF _) (.lit (.bool false)) [] rfl B.M 7 (mapD b) rfl hown _ _ rfl hkey ?_; intro v ps hv; rw [(at_typeS b).1] at hv; obtain rfl := fnR_inv hv; rw [(at_typeS b).2])
  refine HC3.mono ?_
  rintro e w3 ⟨rfl, p3⟩
  have T3 := HT2.out.1.call p3 (Nat.le_of_lt HT.out)
  have HK := sObject_any w3 T3.1 (by have := HH.out.len; have := HT.out; have := HE1.out; omega)
  have HT3 := Lib.hid (HT2.out.2.trans T3.2)
  clear T3 p3 HC3 HT2
  go_wp2_with fail
  refine HK.mono ?_
  rintro e w4 ⟨rfl, hst, b4⟩
  have HX := Lib.hid hst
  have HB := Lib.hid (HT3.out.trans b4)
  clear hst b4 HK
  go_wp2_with fail
  go_end0
  exact ⟨rfl, HX.out, HB.out⟩

set_option maxHeartbeats 8000000 in
set_option maxRecDepth 100000 in
theorem sDefFace {B : SdB} {b : Bool} {x : SchT} {s : Ms} {vt : Value} {ct : List Value} (W : World) (h : Sx B b x s vt ct W) (hw : nxN (hdT (txM s).l) = faceS) :
    Calls Tryz.prog 91 #[.pointer (some ⟨B.c.Q, 0, none⟩)] W (SxAns B b (addT x (facM B.c.z (tlM (txM s)))) W) := by
  obtain ⟨q0, -, -, -, q4, -, l00⟩ := blk5s h.blk
  have HC1 := cTakeText_any W h.p
  dsimp only [SdB.cs] at HC1
  rw [show (if ((hdT s.l).k == 4) = true then tlM s else s) = txM s from rfl] at HC1
  have HH := Lib.hid h
  have HE1 := Lib.hid (txM_fwd s).le
  have hkey : keyOf Tryz.prog 9 (.string ⟨faceS.toArray⟩) = some (.string faceS) := keyOf_string_mk Tryz.underlying9 (by decide)
  obtain ⟨hwd, htl⟩ := wd_tl B.c.z (g := faceS) (by decide) hw
  have HT := Lib.hid htl
  generalize txM s = s0 at *
  generalize ((hdT s.l).k == 4) = bt at *
  clear h
  go_enter Tryz.func91, Tryz.ntmps91
  go_wp2_with fail
  refine HC1.mono ?_
  rintro e w1 ⟨rfl, p1⟩
  have T1 := HH.out.call p1 HE1.out
  obtain ⟨q01, -, -, -, -, -, l01⟩ := blk5s T1.1.blk
  have HC2 := cNext_any w1 T1.1.p
  rw [hw] at HC2
  dsimp only [SdB.cs] at HC2
  have HT1 := Lib.hid T1
  clear T1 p1 HC1
  go_wp2_with fail
  refine HC2.mono ?_
  rintro e w2 ⟨rfl, b2⟩
  have T2 := HT1.out.1.below b2
  obtain ⟨q02, -, -, -, q42, -, l02⟩ := blk5s T2.1.blk
  have hown := T2.1.map
  have HC3 := pMustWord_any faceS (by decide) w2 T2.1.p
  dsimp only [SdB.cs] at HC3
  rw [hwd] at HC3
  have HT2 := Lib.hid (And.intro T2.1 (HT1.out.2.trans T2.2))
  clear T2 b2 HC2 HT1 hwd hw
  go_wp2_with (at_lookup; refine wpList_lookup_own_ok _ rfl _ _ 98 rfl 9 1 lawK Tryz.underlying98 (fnR B.c.Q) (z := .nilFunc) (zeroF _) (.lit (.bool false)) [] rfl B.M 7 (mapD b) rfl hown _ _ rfl hkey ?_; intro v ps hv; rw [(at_faceS b).1] at hv; obtain rfl := fnR_inv hv; rw [(at_faceS b).2])
  refine HC3.mono ?_
  rintro e w3 ⟨rfl, p3⟩
  have T3 := HT2.out.1.call p3 (Nat.le_of_lt HT.out)
  have HK := sFace_any w3 T3.1 (by have := HH.out.len; have := HT.out; have := HE1.out; omega)
  have HT3 := Lib.hid (HT2.out.2.trans T3.2)
  clear T3 p3 HC3 HT2
  go_wp2_with fail
  refine HK.mono ?_
  rintro e w4 ⟨rfl, hst, b4⟩
  have HX := Lib.hid hst
  have HB := Lib.hid (HT3.out.trans b4)
  clear hst b4 HK
  go_wp2_with fail
  go_end0
  exact ⟨rfl, HX.out, HB.out⟩

set_option maxHeartbeats 8000000 in
set_option maxRecDepth 100000 in
theorem sDefUnion {B : SdB} {b : Bool} {x : SchT} {s : Ms} {vt : Value} {ct : List Value} (W : World) (h : Sx B b x s vt ct W) (hw : nxN (hdT (txM s).l) = unionS) :
    Calls Tryz.prog 91 #[.pointer (some ⟨B.c.Q, 0, none⟩)] W (SxAns B b (addT x (uniM B.c.z (tlM (txM s)))) W) := by
  obtain ⟨q0, -, -, -, q4, -, l00⟩ := blk5s h.blk
  have HC1 := cTakeText_any W h.p
  dsimp only [SdB.cs] at HC1
  rw [show (if ((hdT s.l).k == 4) = true then tlM s else s) = txM s from rfl] at HC1
  have HH := Lib.hid h
  have HE1 := Lib.hid (txM_fwd s).le
  have hkey : keyOf Tryz.prog 9 (.string ⟨unionS.toArray⟩) = some (.string unionS) := keyOf_string_mk Tryz.underlying9 (by decide)
  obtain ⟨hwd, htl⟩ := wd_tl B.c.z (g := unionS) (by decide) hw
  have HT := Lib.hid htl
  generalize txM s = s0 at *
  generalize ((hdT s.l).k == 4) = bt at *
  clear h
  go_enter Tryz.func91, Tryz.ntmps91
  go_wp2_with fail
  refine HC1.mono ?_
  rintro e w1 ⟨rfl, p1⟩
  have T1 := HH.out.call p1 HE1.out
  obtain ⟨q01, -, -, -, -, -, l01⟩ := blk5s T1.1.blk
  have HC2 := cNext_any w1 T1.1.p
  rw [hw] at HC2
  dsimp only [SdB.cs] at HC2
  have HT1 := Lib.hid T1
  clear T1 p1 HC1
  go_wp2_with fail
  refine HC2.mono ?_
  rintro e w2 ⟨rfl, b2⟩
  have T2 := HT1.out.1.below b2
  obtain ⟨q02, -, -, -, q42, -, l02⟩ := blk5s T2.1.blk
  have hown := T2.1.map
  have HC3 := pMustWord_any unionS (by decide) w2 T2.1.p
  dsimp only [SdB.cs] at HC3
  rw [hwd] at HC3
  have HT2 := Lib.hid (And.intro T2.1 (HT1.out.2.trans T2.2))
  clear T2 b2 HC2 HT1 hwd hw
  go_wp2_with (at_lookup; refine wpList_lookup_own_ok _ rfl _ _ 98 rfl 9 1 lawK Tryz.underlying98 (fnR B.c.Q) (z := .nilFunc) (zeroF _) (.lit (.bool false)) [] rfl B.M 7 (mapD b) rfl hown _ _ rfl hkey ?_; intro v ps hv; rw [(at_unionS b).1] at hv; obtain rfl := fnR_inv hv; rw [(at_unionS b).2])
  refine HC3.mono ?_
  rintro e w3 ⟨rfl, p3⟩
  have T3 := HT2.out.1.call p3 (Nat.le_of_lt HT.out)
  have HK := sUnion_any w3 T3.1 (by have := HH.out.len; have := HT.out; have := HE1.out; omega)
  have HT3 := Lib.hid (HT2.out.2.trans T3.2)
  clear T3 p3 HC3 HT2
  go_wp2_with fail
  refine HK.mono ?_
  rintro e w4 ⟨rfl, hst, b4⟩
  have HX := Lib.hid hst
  have HB := Lib.hid (HT3.out.trans b4)
  clear hst b4 HK
  go_wp2_with fail
  go_end0
  exact ⟨rfl, HX.out, HB.out⟩

set_option maxHeartbeats 8000000 in
set_option maxRecDepth 100000 in
theorem sDefEnums {B : SdB} {b : Bool} {x : SchT} {s : Ms} {vt : Value} {ct : List Value} (W : World) (h : Sx B b x s vt ct W) (hw : nxN (hdT (txM s).l) = enumS) :
    Calls Tryz.prog 91 #[.pointer (some ⟨B.c.Q, 0, none⟩)] W (SxAns B b (addT x (enuM B.c.z (tlM (txM s)))) W) := by
  obtain ⟨q0, -, -, -, q4, -, l00⟩ := blk5s h.blk
  have HC1 := cTakeText_any W h.p
  dsimp only [SdB.cs] at HC1
  rw [show (if ((hdT s.l).k == 4) = true then tlM s else s) = txM s from rfl] at HC1
  have HH := Lib.hid h
  have HE1 := Lib.hid (txM_fwd s).le
  have hkey : keyOf Tryz.prog 9 (.string ⟨enumS.toArray⟩) = some (.string enumS) := keyOf_string_mk Tryz.underlying9 (by decide)
  obtain ⟨hwd, htl⟩ := wd_tl B.c.z (g := enumS) (by decide) hw
  have HT := Lib.hid htl
  generalize txM s = s0 at *
  generalize ((hdT s.l).k == 4) = bt at *
  clear h
  go_enter Tryz.func91, Tryz.ntmps91
  go_wp2_with fail
  refine HC1.mono ?_
  rintro e w1 ⟨rfl, p1⟩
  have T1 := HH.out.call p1 HE1.out
  obtain ⟨q01, -, -, -, -, -, l01⟩ := blk5s T1.1.blk
  have HC2 := cNext_any w1 T1.1.p
  rw [hw] at HC2
  dsimp only [SdB.cs] at HC2
  have HT1 := Lib.hid T1
  clear T1 p1 HC1
  go_wp2_with fail
  refine HC2.mono ?_
  rintro e w2 ⟨rfl, b2⟩
  have T2 := HT1.out.1.below b2
  obtain ⟨q02, -, -, -, q42, -, l02⟩ := blk5s T2.1.blk
  have hown := T2.1.map
  have HC3 := pMustWord_any enumS (by decide) w2 T2.1.p
  dsimp only [SdB.cs] at HC3
  rw [hwd] at HC3
  have HT2 := Lib.hid (And.intro T2.1 (HT1.out.2.trans T2.2))
  clear T2 b2 HC2 HT1 hwd hw
  go_wp2_with (at_lookup; refine wpList_lookup_own_ok _ rfl _ _ 98 rfl 9 1 lawK Tryz.underlying98 (fnR B.c.Q) (z := .nilFunc) (zeroF _) (.lit (.bool false)) [] rfl B.M 7 (mapD b) rfl hown _ _ rfl hkey ?_; intro v ps hv; rw [(at_enumS b).1] at hv; obtain rfl := fnR_inv hv; rw [(at_enumS b).2])
  refine HC3.mono ?_
  rintro e w3 ⟨rfl, p3⟩
  have T3 := HT2.out.1.call p3 (Nat.le_of_lt HT.out)
  have HK := sEnums_any w3 T3.1 (by have := HH.out.len; have := HT.out; have := HE1.out; omega)
  have HT3 := Lib.hid (HT2.out.2.trans T3.2)
  clear T3 p3 HC3 HT2
  go_wp2_with fail
  refine HK.mono ?_
  rintro e w4 ⟨rfl, hst, b4⟩
  have HX := Lib.hid hst
  have HB := Lib.hid (HT3.out.trans b4)
  clear hst b4 HK
  go_wp2_with fail
  go_end0
  exact ⟨rfl, HX.out, HB.out⟩

set_option maxHeartbeats 8000000 in
set_option maxRecDepth 100000 in
theorem sDefInputs {B : SdB} {b : Bool} {x : SchT} {s : Ms} {vt : Value} {ct : List Value} (W : World) (h : Sx B b x s vt ct W) (hw : nxN (hdT (txM s).l) = inputS) :
    Calls Tryz.prog 91 #[.pointer (some ⟨B.c.Q, 0, none⟩)] W (SxAns B b (addT x (iptM B.c.z (tlM (txM s)))) W) := by
  obtain ⟨q0, -, -, -, q4, -, l00⟩ := blk5s h.blk
  have HC1 := cTakeText_any W h.p
  dsimp only [SdB.cs] at HC1
  rw [show (if ((hdT s.l).k == 4) = true then tlM s else s) = txM s from rfl] at HC1
  have HH := Lib.hid h
  have HE1 := Lib.hid (txM_fwd s).le
  have hkey : keyOf Tryz.prog 9 (.string ⟨inputS.toArray⟩) = some (.string inputS) := keyOf_string_mk Tryz.underlying9 (by decide)
  obtain ⟨hwd, htl⟩ := wd_tl B.c.z (g := inputS) (by decide) hw
  have HT := Lib.hid htl
  generalize txM s = s0 at *
  generalize ((hdT s.l).k == 4) = bt at *
  clear h
  go_enter Tryz.func91, Tryz.ntmps91
  go_wp2_with fail
  refine HC1.mono ?_
  rintro e w1 ⟨rfl, p1⟩
  have T1 := HH.out.call p1 HE1.out
  obtain ⟨q01, -, -, -, -, -, l01⟩ := blk5s T1.1.blk
  have HC2 := cNext_any w1 T1.1.p
  rw [hw] at HC2
  dsimp only [SdB.cs] at HC2
  have HT1 := Lib.hid T1
  clear T1 p1 HC1
  go_wp2_with fail
  refine HC2.mono ?_
  rintro e w2 ⟨rfl, b2⟩
  have T2 := HT1.out.1.below b2
  obtain ⟨q02, -, -, -, q42, -, l02⟩ := blk5s T2.1.blk
  have hown := T2.1.map
  have HC3 := pMustWord_any inputS (by decide) w2 T2.1.p
  dsimp only [SdB.cs] at HC3
  rw [hwd] at HC3
  have HT2 := Lib.hid (And.intro T2.1 (HT1.out.2.trans T2.2))
  clear T2 b2 HC2 HT1 hwd hw
  go_wp2_with (at_lookup; refine wpList_lookup_own_ok _ rfl _ _ 98 rfl 9 1 lawK Tryz.underlying98 (fnR B.c.Q) (z := .nilFunc) (zeroF _) (.lit (.bool false)) [] rfl B.M 7 (mapD b) rfl hown _ _ rfl hkey ?_; intro v ps hv; rw [(at_inputS b).1] at hv; obtain rfl := fnR_inv hv; rw [(at_inputS b).2])
  refine HC3.mono ?_
  rintro e w3 ⟨rfl, p3⟩
  have T3 := HT2.out.1.call p3 (Nat.le_of_lt HT.out)
  have HK := sInputs_any w3 T3.1 (by have := HH.out.len; have := HT.out; have := HE1.out; omega)
  have HT3 := Lib.hid (HT2.out.2.trans T3.2)
  clear T3 p3 HC3 HT2
  go_wp2_with fail
  refine HK.mono ?_
  rintro e w4 ⟨rfl, hst, b4⟩
  have HX := Lib.hid hst
  have HB := Lib.hid (HT3.out.trans b4)
  clear hst b4 HK
  go_wp2_with fail
  go_end0
  exact ⟨rfl, HX.out, HB.out⟩

set_option maxHeartbeats 8000000 in
set_option maxRecDepth 100000 in
theorem sDefSchema {B : SdB} {x : SchT} {s : Ms} {vt : Value} {ct : List Value} (W : World) (h : Sx B true x s vt ct W) (hw : nxN (hdT (txM s).l) = schemaS) :
    Calls Tryz.prog 91 #[.pointer (some ⟨B.c.Q, 0, none⟩)] W (SxAns B false (rooM B.c.z x (tlM (txM s))) W) := by
  obtain ⟨q0, -, -, -, q4, -, l00⟩ := blk5s h.blk
  have HC1 := cTakeText_any W h.p
  dsimp only [SdB.cs] at HC1
  rw [show (if ((hdT s.l).k == 4) = true then tlM s else s) = txM s from rfl] at HC1
  have HH := Lib.hid h
  have HE1 := Lib.hid (txM_fwd s).le
  have hkey : keyOf Tryz.prog 9 (.string ⟨schemaS.toArray⟩) = some (.string schemaS) := keyOf_string_mk Tryz.underlying9 (by decide)
  obtain ⟨hwd, htl⟩ := wd_tl B.c.z (g := schemaS) (by decide) hw
  have HT := Lib.hid htl
  generalize txM s = s0 at *
  generalize ((hdT s.l).k == 4) = bt at *
  clear h
  go_enter Tryz.func91, Tryz.ntmps91
  go_wp2_with fail
  refine HC1.mono ?_
  rintro e w1 ⟨rfl, p1⟩
  have T1 := HH.out.call p1 HE1.out
  obtain ⟨q01, -, -, -, -, -, l01⟩ := blk5s T1.1.blk
  have HC2 := cNext_any w1 T1.1.p
  rw [hw] at HC2
  dsimp only [SdB.cs] at HC2
  have HT1 := Lib.hid T1
  clear T1 p1 HC1
  go_wp2_with fail
  refine HC2.mono ?_
  rintro e w2 ⟨rfl, b2⟩
  have T2 := HT1.out.1.below b2
  obtain ⟨q02, -, -, -, q42, -, l02⟩ := blk5s T2.1.blk
  have hown := T2.1.map
  have HC3 := pMustWord_any schemaS (by decide) w2 T2.1.p
  dsimp only [SdB.cs] at HC3
  rw [hwd] at HC3
  have HT2 := Lib.hid (And.intro T2.1 (HT1.out.2.trans T2.2))
  clear T2 b2 HC2 HT1 hwd hw
  go_wp2_with (at_lookup; refine wpList_lookup_own_ok _ rfl _ _ 98 rfl 9 1 lawK Tryz.underlying98 (fnR B.c.Q) (z := .nilFunc) (zeroF _) (.lit (.bool false)) [] rfl B.M 7 (mapD true) rfl hown _ _ rfl hkey ?_; intro v ps hv; rw [at_schema.1] at hv; obtain rfl := fnR_inv hv; rw [at_schema.2])
  refine HC3.mono ?_
  rintro e w3 ⟨rfl, p3⟩
  have T3 := HT2.out.1.call p3 (Nat.le_of_lt HT.out)
  have HK := sRoots_any w3 T3.1
  have HT3 := Lib.hid (HT2.out.2.trans T3.2)
  clear T3 p3 HC3 HT2
  go_wp2_with fail
  refine HK.mono ?_
  rintro e w4 ⟨rfl, hst, b4⟩
  have HX := Lib.hid hst
  have HB := Lib.hid (HT3.out.trans b4)
  clear hst b4 HK
  go_wp2_with fail
  go_end0
  exact ⟨rfl, HX.out, HB.out⟩

set_option maxHeartbeats 8000000 in
set_option maxRecDepth 100000 in
theorem sDefNone {B : SdB} {b : Bool} {x : SchT} {s : Ms} {vt : Value} {ct : List Value} (W : World) (h : Sx B b x s vt ct W) (hh : Maps.has (mapD b) (.string (nxN (hdT (txM s).l))) = false) :
    Calls Tryz.prog 91 #[.pointer (some ⟨B.c.Q, 0, none⟩)] W (SxAns B b (x, failM B.c.z 2 (txM s)) W) := by
  obtain ⟨q0, -, -, -, q4, -, l00⟩ := blk5s h.blk
  have HC1 := cTakeText_any W h.p
  dsimp only [SdB.cs] at HC1
  rw [show (if ((hdT s.l).k == 4) = true then tlM s else s) = txM s from rfl] at HC1
  have HH := Lib.hid h
  have HE1 := Lib.hid (txM_fwd s).le
  generalize txM s = s0 at *
  generalize ((hdT s.l).k == 4) = bt at *
  clear h
  go_enter Tryz.func91, Tryz.ntmps91
  go_wp2_with fail
  refine HC1.mono ?_
  rintro e w1 ⟨rfl, p1⟩
  have T1 := HH.out.call p1 HE1.out
  obtain ⟨q01, -, -, -, -, -, l01⟩ := blk5s T1.1.blk
  have HC2 := cNext_any w1 T1.1.p
  have hsz := nxN_size T1.1.p
  generalize nxN (hdT s0.l) = nx at *
  have hkey : keyOf Tryz.prog 9 (.string ⟨nx.toArray⟩) = some (.string nx) := by
    have := keyOf_string_mk (P := Tryz.prog) (s := ⟨nx.toArray⟩) Tryz.underlying9 (by show nx.length ≤ _; unfold maxLen; omega)
    simpa using this
  dsimp only [SdB.cs] at HC2
  have HT1 := Lib.hid T1
  clear T1 p1 HC1 hsz
  go_wp2_with fail
  refine HC2.mono ?_
  rintro e w2 ⟨rfl, b2⟩
  have T2 := HT1.out.1.below b2
  obtain ⟨q02, -, -, -, q42, -, l02⟩ := blk5s T2.1.blk
  have hown := T2.1.map
  have HC3 := pFail_any 2 w2 T2.1.p
  have HE3 := Lib.hid (fail_le B.c.z 2 s0)
  dsimp only [SdB.cs] at HC3
  have HT2 := Lib.hid (And.intro T2.1 (HT1.out.2.trans T2.2))
  clear T2 b2 HC2 HT1
  go_wp2_with (at_lookup; refine wpList_lookup_own_ok _ rfl _ _ 98 rfl 9 1 lawK Tryz.underlying98 (fnR B.c.Q) (z := .nilFunc) (zeroF _) (.lit (.bool false)) [] rfl B.M 7 (mapD b) rfl hown _ _ rfl hkey ?_; intro v ps hv; rw [hh])
  refine HC3.mono ?_
  rintro e w3 ⟨rfl, p3⟩
  have T3 := HT2.out.1.call p3 HE3.out
  have HX := Lib.hid (And.intro T3.1 (HT2.out.2.trans T3.2))
  clear T3 p3 HC3 HT2
  go_wp2_with fail
  refine bodyPost_ret (v := .tuple #[]) (results_none rfl _ _ _) rfl ?_
  exact ⟨rfl, ⟨_, _, HX.out.1⟩, HX.out.2⟩

theorem sDef_any {B : SdB} {b : Bool} {x : SchT} {s : Ms} {vt : Value} {ct : List Value} (W : World) (h : Sx B b x s vt ct W) :
    Calls Tryz.prog 91 #[.pointer (some ⟨B.c.Q, 0, none⟩)] W (SxAns B (sdfM B.c.z b x s).1.2 ((sdfM B.c.z b x s).1.1, (sdfM B.c.z b x s).2) W) := by
  by_cases h0 : nxN (hdT (txM s).l) = schemaS ∧ b = true
  · obtain ⟨h0, rfl⟩ := h0
    rw [sdf_schema _ _ _ h0]
    exact sDefSchema W h h0
  by_cases h1 : nxN (hdT (txM s).l) = scalarS
  · rw [sdf_scalarS _ _ _ _ h1]
    exact sDefScalar W h h1
  by_cases h2 : nxN (hdT (txM s).l) = typeS
  · rw [sdf_typeS _ _ _ _ h2]
    exact sDefObject W h h2
  by_cases h3 : nxN (hdT (txM s).l) = faceS
  · rw [sdf_faceS _ _ _ _ h3]
    exact sDefFace W h h3
  by_cases h4 : nxN (hdT (txM s).l) = unionS
  · rw [sdf_unionS _ _ _ _ h4]
    exact sDefUnion W h h4
  by_cases h5 : nxN (hdT (txM s).l) = enumS
  · rw [sdf_enumS _ _ _ _ h5]
    exact sDefEnums W h h5
  by_cases h6 : nxN (hdT (txM s).l) = inputS
  · rw [sdf_inputS _ _ _ _ h6]
    exact sDefInputs W h h6
  have hs : nxN (hdT (txM s).l) = schemaS → b = false := fun e => by
    cases b with
    | false => rfl
    | true => exact absurd ⟨e, rfl⟩ h0
  rw [sdf_none _ _ _ _ hs h1 h2 h3 h4 h5 h6]
  exact sDefNone W h (has_none b _ hs h1 h2 h3 h4 h5 h6)

end Go.Proofs.YtkahnlgedacppaaGreatDoor
