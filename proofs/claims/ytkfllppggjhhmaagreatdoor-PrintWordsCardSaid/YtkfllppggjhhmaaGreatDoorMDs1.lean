/-
  doc's parser: arguments, or none; a directive; directives.
-/
import Derived.Test.YtkfllppggjhhmaaGreatDoorMDa
import Derived.Deep.DeepCutAuto
namespace Go.Proofs.YtkfllppggjhhmaaGreatDoor
open Go.RowKit

set_option maxHeartbeats 2000000 in
set_option maxRecDepth 100000 in
theorem sonArg_any {c : Cx} {k : Nat} {s : Ms} (b e : List UInt8) (P : Ms → ArgT × Ms) (w : World) (h : Pv c k s w) (hP : ∀ s' W, Pv c k s' W → Calls Tryz.prog 303 #[.pointer (some ⟨c.R, 0, none⟩)] W (RecAns ArgE c k W (P s')))
    (hless : ∀ s', s'.er = 0 → (P s').2.er = 0 → (P s').2.l.length < s'.l.length) :
    Calls Tryz.prog 302 #[.pointer (some ⟨c.R, 0, none⟩), .string ⟨b.toArray⟩, .func (.func 303) #[.pointer (some ⟨c.R, 0, none⟩)] #[], .string ⟨e.toArray⟩] w (RowAns ArgE 5 c k w (soM c.z b e P s)) := by
  have HS := pSign_any b w h
  have HH := Lib.hid h
  have HM := Lib.hid (show soM c.z b e P s = if isSg b (hdT s.l) then svM c.z b e P s else ([], s) from rfl)
  have HV := fun W (hb : Below w.heap.size w W) => sevArg_any b e P W (h.below hb h.hN) hP hless
  clear h hP hless
  cases hi : isSg b (hdT s.l) with
  | true =>
    rw [hi] at HS HM
    clear hi
    go_enter Tryz.func302, Tryz.ntmps302
    go_wp2_with fail
    refine HS.mono ?_
    rintro ee w1 ⟨rfl, hb⟩
    have HV1 := HV w1 hb
    have HB := Lib.hid hb
    clear HV HS hb
    go_wp2_with fail
    refine HV1.mono ?_
    rintro ee w2 ⟨v, rfl, hR, hp⟩
    have HR := Lib.hid hR
    have HP := Lib.hid hp
    obtain ⟨a, cp, rfl⟩ := hR.shape
    clear hR hp HV1
    go_wp2_with fail
    go_ret
    rw [HM.out]
    exact ⟨_, rfl, RowD.step argOk (fun b hd => ⟨Nat.le_trans HB.out.size hd.1, hd.2⟩) (fun _ _ _ => rfl) HR.out, ((Pw.refl HH.out).below HB.out).trans HP.out⟩
  | false =>
    rw [hi] at HS HM
    clear hi HV
    go_enter Tryz.func302, Tryz.ntmps302
    go_wp2_with fail
    refine HS.mono ?_
    rintro ee w1 ⟨rfl, hb⟩
    have HB := Lib.hid hb
    clear HS hb
    go_wp2_with fail
    go_ret
    rw [HM.out]
    exact ⟨_, rfl, .nil, (Pw.refl HH.out).below HB.out⟩

set_option maxHeartbeats 2000000 in
set_option maxRecDepth 100000 in
theorem pArgs_any {c : Cx} {k : Nat} {s : Ms} (w : World) (h : Pv c k s w) : Calls Tryz.prog 276 #[.pointer (some ⟨c.R, 0, none⟩)] w (RowAns ArgE 5 c k w (asM c.z s)) := by
  have HV := sonArg_any [40] [41] (arM c.z) w h (fun s' W h' => pArg_any W h') (fun s' _ h2 => (arM_eats c.z s').lt h2)
  have HM := Lib.hid (show asM c.z s = soM c.z [40] [41] (arM c.z) s from rfl)
  generalize soM c.z [40] [41] (arM c.z) s = RES at *
  clear h
  go_enter Tryz.func276, Tryz.ntmps276
  go_wp2_with fail
  refine HV.mono ?_
  rintro ee w2 ⟨v, rfl, hR, hp⟩
  have HR := Lib.hid hR
  have HP := Lib.hid hp
  obtain ⟨a, cp, rfl⟩ := hR.shape
  clear hR hp HV
  go_wp2_with fail
  go_ret
  rw [HM.out]
  exact ⟨_, rfl, HR.out, HP.out⟩

set_option maxHeartbeats 4000000 in
set_option maxRecDepth 100000 in
theorem pDir_any {c : Cx} {k : Nat} {s : Ms} (w : World) (h : Pv c k s w) : Calls Tryz.prog 244 #[.pointer (some ⟨c.R, 0, none⟩)] w (RecAns DirE c k w (diM c.z s)) := by
  have L0 := Lo.new h 67 #[.string ⟨#[]⟩, .slice none 0 0] #[.string ⟨#[]⟩, .slice none 0 0]
  have HL0 := Lib.hid L0
  have HC1 := pNm_any _ L0.p.1
  have HM := Lib.hid (show diM c.z s = (((nmM c.z s).1, (asM c.z (nmM c.z s).2).1), (asM c.z (nmM c.z s).2).2) from rfl)
  have HZ := Lib.hid (nmM_size h)
  generalize nmM c.z s = R1 at *
  generalize diM c.z s = RES at *
  obtain ⟨nm, s1⟩ := R1
  dsimp only at HC1 HM HZ
  clear L0 h
  go_enter Tryz.func244, Tryz.ntmps244
  go_wp2_with fail
  refine HC1.mono ?_
  rintro e w1 ⟨rfl, p1⟩
  have L1 := HL0.out.call p1
  have S1 := L1.1.set 0 (.string ⟨nm.toArray⟩)
  obtain ⟨b0, b1, bf, bl⟩ := blk2 L1.1.h1
  have HC2 := pArgs_any _ S1.1.p.1
  have HS1 := Lib.hid S1.1
  clear p1 L1 S1 HC1 HL0
  go_wp2_with fail
  refine HC2.mono ?_
  rintro e w3 ⟨v, rfl, hR, p3⟩
  have L3 := HS1.out.call p3
  have hd := RowD.step (D' := Dn w w3) (w' := w3) argOk (dn_of HS1.out) (fun _ _ _ => rfl) hR
  obtain ⟨va, vc, rfl⟩ := hR.shape
  have T1 := L3.1.set 1 (.slice va (asM c.z s1).1.length vc)
  have U0 := T1.1.fin 0 (.string ⟨nm.toArray⟩)
  have U1 := U0.1.fin 1 (.slice va (asM c.z s1).1.length vc)
  have HK := Lib.hid ((T1.2.trans U0.2).trans U1.2)
  have HRD := Lib.hid hd
  have HU := Lib.hid U1.1
  clear b0 b1 bf bl
  obtain ⟨b0, b1, bf, bl⟩ := blk2 L3.1.h1
  obtain ⟨a0, a1, af, al⟩ := blk2 L3.1.h0
  obtain ⟨f0, f1, -, -⟩ := blk2 U1.1.h0
  have HF := Lib.hid (And.intro f0 f1)
  clear p3 L3 HC2 HS1 hR hd T1 U0 U1 f0 f1
  go_wp2_with fail
  obtain ⟨f0, f1⟩ := HF.out
  refine bodyPost_ret (v := .agg #[.string ⟨nm.toArray⟩, .slice va (asM c.z s1).1.length vc]) (by simp [results, Tryz.results244, go_sem, f0, f1]) rfl ?_
  rw [HM.out]
  exact ⟨[.string ⟨nm.toArray⟩, .slice va (asM c.z s1).1.length vc], rfl, dirOk.step dn_fin (fun _ _ _ => rfl) ⟨HZ.out, _, rfl, HK.out.row argOk HRD.out⟩, HU.out.p⟩

theorem infoDir : (Tryz.prog.info? 67).map (fun i => (i.zero, i.size, i.bytes)) = some (some (.agg #[.string ⟨#[]⟩, .slice none 0 0]), 2, 40) := by kernel_rfl
/-- What remains of the loop over directives. -/
def DirRel (c : Cx) (k : Nat) (w : World) (RES : List DirT × Ms) (j : Nat) (v : Value) (wr : World) : Prop :=
  ∃ (s2 : Ms) (xs : List DirT) (cs : List Value), Pw c k s2 w wr ∧ s2.l.length < j ∧ xs.length + s2.l.length ≤ 600 ∧ OwnR DirE w.heap.size 67 2 xs cs v wr ∧ dsM c.z j s2 xs = RES

set_option maxHeartbeats 4000000 in
set_option maxRecDepth 100000 in
theorem pDirs_any {c : Cx} {k : Nat} {s : Ms} (w : World) (h : Pv c k s w) : Calls Tryz.prog 189 #[.pointer (some ⟨c.R, 0, none⟩)] w (RowAns DirE 2 c k w (dirM c.z s)) := by
  obtain ⟨i2, hi2, hz20, hz21, hz22⟩ := info_parts infoDir
  have HRES := Lib.hid (show dirM c.z s = dsM c.z (s.l.length + 1) s [] from rfl)
  generalize dirM c.z s = RES at *
  have HH := Lib.hid h
  have hN := h.hN
  have hRN := h.hR
  have HL := Lib.hid h.len
  clear h
  go_enter Tryz.func189, Tryz.ntmps189
  go_wp2_with fail
  go_loopg [3] (s.l.length + 1) (fun j v3 wr => DirRel c k w RES j v3 wr)
  case atStart => exact ⟨s, [], [], .refl HH.out, Nat.lt_succ_self _, by simpa using HL.out, .nil, HRES.out.symm⟩
  case round =>
    obtain ⟨s2, xs, cs, hp2, hj, hx0, hrow, hres⟩ := hrel
    obtain ⟨j2, rfl⟩ : ∃ j', gk = j' + 1 := ⟨gk - 1, by omega⟩
    have HPW := Lib.hid hp2
    have HROW := Lib.hid hrow
    have HX0 := Lib.hid hx0
    have HT := pTakeSign_any [64] wr hp2.1
    have hsw := hp2.2.size
    have HS := Lib.hid (show RES = if isSg [64] (hdT s2.l) then dsM c.z j2 (diM c.z (tlM s2)).2 (xs ++ [(diM c.z (tlM s2)).1]) else (xs, s2) by rw [← hres, dsM])
    have HLS := Lib.hid (show isSg [64] (hdT s2.l) = true → (diM c.z (tlM s2)).2.l.length < s2.l.length from fun hi => by
      have h1 := tl_less (sgT_k hi)
      have h2 := (diM_eats c.z (tlM s2)).le
      omega)
    have HJ := Lib.hid hj
    obtain ⟨aL, cL, rfl, hcL, _⟩ := fresh_row hrow.own
    clear hp2 hrow hres hx0 hj HL HRES
    cases hi : isSg [64] (hdT s2.l) with
    | false =>
      rw [hi] at HT HS
      simp only [reduceIte, Bool.false_eq_true] at HT HS
      clear hi HLS
      go_wp2_with fail
      refine HT.mono ?_
      rintro ee w2 ⟨rfl, hp⟩
      have HP := Lib.hid hp
      clear hp HT
      go_wp2_with fail
      go_ret
      rw [HS.out]
      exact ⟨_, rfl, (HROW.out.call dirOk hN hRN HPW.out HP.out).done dirOk (by have := HX0.out; omega), HPW.out.trans HP.out⟩
    | true =>
      rw [hi] at HT HS
      simp only [reduceIte] at HT HS
      have HL3 := Lib.hid (HLS.out hi)
      clear hi HLS
      go_wp2_with fail
      refine HT.mono ?_
      rintro ee w2 ⟨rfl, hp⟩
      have hrow2 := HROW.out.call dirOk hN hRN HPW.out hp
      have hpw2 := HPW.out.trans hp
      have hC := pDir_any w2 hp.1
      have hs2 := hp.2.size
      have HP2 := Lib.hid hpw2
      have HROW2 := Lib.hid hrow2
      generalize diM c.z (tlM s2) = RV at *
      obtain ⟨x, s3⟩ := RV
      dsimp only at HS HL3
      clear hp hrow2 hpw2 HROW HPW HT
      go_wp2_with fail
      refine hC.mono ?_
      rintro ee w3 ⟨es, hee, hE, hp3⟩
      dsimp only at hE hp3
      obtain ⟨hz1, va, rfl, hE1⟩ := hE
      have hE' : DirE w3 (fun b => w2.heap.size ≤ b ∧ b < w3.heap.size) x [.string ⟨x.1.toArray⟩, va] := ⟨hz1, va, rfl, hE1⟩
      obtain ⟨aa, ca, rfl⟩ := hE1.shape
      have hee : ee = .returned (.agg #[.string ⟨x.1.toArray⟩, .slice aa x.2.length ca]) := hee
      subst hee
      have HPR := Lib.hid (rec_new w3 2 #[.string ⟨x.1.toArray⟩, .slice aa x.2.length ca] 67)
      have HONE := Lib.hid (dirOk.one hE')
      have hA := HROW2.out.app dirOk hN HP2.out hp3 hE' (.cells #[.string ⟨x.1.toArray⟩, .slice aa x.2.length ca] 67 (0, 0))
      have HA := Lib.hid hA
      have HOW := Lib.hid hA.1.own
      have HZ := Lib.hid (show w.heap.size ≤ (w3.alloc (.cells #[.string ⟨x.1.toArray⟩, .slice aa x.2.length ca] 67 (0, 0))).heap.size by rw [hA.2.2]; have := hp3.2.size; have := HP2.out.2.size; omega)
      have HZ2 := Lib.hid hA.2.2
      have HP3 := Lib.hid hp3
      clear hp3 hE' hA hC hE1
      have hxm : xs.length ≤ 1000 := by have := HX0.out; omega
      go_wp2_with (at_builtin; refine wpList_append_lies _ rfl _ _ 42 rfl w.heap.size 67 i2 (.agg #[.string ⟨#[]⟩, .slice none 0 0]) 2 40 Tryz.underlying42 hi2 hz20 hz21 hz22 rfl (by decide) (.slice aL xs.length cL) xs.length cs rfl HOW.out ⟨w3.heap.size, 0, none⟩ 1 1 [.string ⟨x.1.toArray⟩, .slice aa x.2.length ca] rfl rfl HPR.out HONE.out (by decide) (by unfold maxLen; omega) (by omega) HZ.out (w3.heap.size + 1) HZ2.out ?_)
      intro g8 cap8 w8 hown8 hg8 hlie8 hl8
      obtain ⟨hrow8, hp8⟩ := app_done dirOk HP2.out HP3.out HA.out hN hown8 hg8 (by
        rcases hlie8 with ea | ea
        · exact .inl ea.symm
        · exact .inr (by rw [HZ2.out, ea]; rfl))
      have HR8 := Lib.hid hrow8
      have HP8 := Lib.hid hp8
      clear hown8 hg8 hlie8 hrow8 hp8 HPR HONE HA HOW HZ HZ2 HP3
      go_wp2_with fail
      go_roundg j2
      case measure => omega
      case rel => exact ⟨s3, xs ++ [x], _, HP8.out, by have := HL3.out; have := HJ.out; omega, by have := HL3.out; have := HX0.out; rw [List.length_append, List.length_singleton]; omega, HR8.out, HS.out.symm⟩

end Go.Proofs.YtkfllppggjhhmaaGreatDoor
/-
  doc's parser: a struct that a function builds in block g, beside the box of its result.
-/
namespace Go.Proofs.YtkfllppggjhhmaaGreatDoor
open Go.RowKit

/-- What was made since the box was laid stays, but for block g. -/
structure Kp (w : World) (g : Nat) (W W' : World) : Prop where
  size : W.heap.size ≤ W'.heap.size
  heap : ∀ b, w.heap.size + 1 ≤ b → b ≠ g → b < W.heap.size → W'.heap[b]? = W.heap[b]?
theorem Kp.refl (w : World) (g : Nat) (W : World) : Kp w g W W := ⟨Nat.le_refl _, fun _ _ _ _ => rfl⟩
theorem Kp.trans {w a b d : World} {g : Nat} (h : Kp w g a b) (k : Kp w g b d) : Kp w g a d := ⟨Nat.le_trans h.size k.size, fun x h1 h2 h3 => (k.heap x h1 h2 (by have := h.size; omega)).trans (h.heap x h1 h2 h3)⟩
def Dg (w : World) (g : Nat) (W : World) (b : Nat) : Prop := w.heap.size + 1 ≤ b ∧ b ≠ g ∧ b < W.heap.size
theorem Kp.cell {w W W' : World} {g : Nat} (h : Kp w g W W') : ∀ b o, Dg w g W b → W'.cell? ⟨b, o, none⟩ = W.cell? ⟨b, o, none⟩ := fun b o hd => World.cell?_of_block (a := ⟨b, o, none⟩) (h.heap b hd.1 hd.2.1 hd.2.2)
theorem Kp.dn {w W W' : World} {g : Nat} (h : Kp w g W W') : ∀ b, Dg w g W b → Dg w g W' b := fun _ hd => ⟨hd.1, hd.2.1, Nat.lt_of_lt_of_le hd.2.2 h.size⟩
theorem Kp.row {α : Type} {E : ElemR α} {sz : Nat} (hE : ElemOk E sz) {w W W' : World} {g : Nat} (h : Kp w g W W') {xs : List α} {v : Value} (hr : RowD E sz W (Dg w g W) xs v) : RowD E sz W' (Dg w g W') xs v := RowD.step hE h.dn h.cell hr
theorem Kp.rd {w W W' : World} {g : Nat} (h : Kp w g W W') {n : Nat} {x : JV} {v : Value} (hr : RdD W (Dg w g W) n x v) : RdD W' (Dg w g W') n x v := RdD.step h.dn h.cell hr

/-- The box of the result lies in block w.heap.size. -/
structure Lb (c : Cx) (k : Nat) (w : World) (T : TypeId) (b0 : Array Value) (s : Ms) (W : World) : Prop where
  p : Pw c k s w W
  h0 : W.heap[w.heap.size]? = some (.cells b0 T (0, 0))
  hN : c.N ≤ w.heap.size
theorem Lb.sz {c : Cx} {k : Nat} {w : World} {T : TypeId} {b0 : Array Value} {s : Ms} {W : World} (h : Lb c k w T b0 s W) : w.heap.size + 1 ≤ W.heap.size := (Array.getElem?_eq_some_iff.1 h.h0).1
theorem Lb.new {c : Cx} {k : Nat} {s : Ms} {w : World} (h : Pv c k s w) (T : TypeId) (b0 : Array Value) : Lb c k w T b0 s (w.alloc (.cells b0 T (0, 0))) :=
  ⟨.of h ((Below.refl _ w).alloc (Nat.le_refl _) _), heap_alloc_new _ _, h.hN⟩
theorem Lb.call {c : Cx} {k k' : Nat} {w : World} {T : TypeId} {b0 : Array Value} {s s' : Ms} {W W' : World} (h : Lb c k w T b0 s W) (hp : Pw c k' s' W W') : Lb c k' w T b0 s' W' := by
  have hs := h.sz
  have hR := h.p.1.hR
  have hN := h.hN
  exact ⟨h.p.trans hp, (hp.2.block _ (by omega) (by omega)).trans h.h0, h.hN⟩
theorem Lb.below {c : Cx} {k : Nat} {w : World} {T : TypeId} {b0 : Array Value} {s : Ms} {W W' : World} (h : Lb c k w T b0 s W) (hb : Below W.heap.size W W') : Lb c k w T b0 s W' := h.call (.of h.p.1 hb)
theorem Lb.fin {c : Cx} {k : Nat} {w : World} {T : TypeId} {b0 : Array Value} {s : Ms} {W : World} (h : Lb c k w T b0 s W) (i : Nat) (v : Value) : Lb c k w T (b0.setIfInBounds i v) s (W.setCell ⟨w.heap.size, i, none⟩ v) :=
  ⟨h.p.set h.hN (Nat.le_refl _) v, Lib.heap_setCell_same h.h0 v, h.hN⟩

/-- And the struct in block g. -/
structure Lg (c : Cx) (k : Nat) (w : World) (T : TypeId) (g : Nat) (b0 b1 : Array Value) (s : Ms) (W : World) : Prop where
  b : Lb c k w T b0 s W
  h1 : W.heap[g]? = some (.cells b1 T (0, 0))
  hg : w.heap.size < g
theorem Lb.made {c : Cx} {k : Nat} {w : World} {T : TypeId} {b0 : Array Value} {s : Ms} {W : World} (h : Lb c k w T b0 s W) (b1 : Array Value) : Lg c k w T W.heap.size b0 b1 s (W.alloc (.cells b1 T (0, 0))) :=
  ⟨h.below ((Below.refl _ W).alloc (Nat.le_refl _) _), heap_alloc_new _ _, h.sz⟩
theorem Lg.lt {c : Cx} {k : Nat} {w : World} {T : TypeId} {g : Nat} {b0 b1 : Array Value} {s : Ms} {W : World} (h : Lg c k w T g b0 b1 s W) : g < W.heap.size := (Array.getElem?_eq_some_iff.1 h.h1).1
theorem Lg.call {c : Cx} {k k' : Nat} {w : World} {T : TypeId} {g : Nat} {b0 b1 : Array Value} {s s' : Ms} {W W' : World} (h : Lg c k w T g b0 b1 s W) (hp : Pw c k' s' W W') : Lg c k' w T g b0 b1 s' W' ∧ Kp w g W W' := by
  have hs := h.b.sz
  have hR := h.b.p.1.hR
  have hN := h.b.hN
  have hg := h.hg
  exact ⟨⟨h.b.call hp, (hp.2.block _ h.lt (by omega)).trans h.h1, h.hg⟩, ⟨hp.2.size, fun b hb _ hl => hp.2.block b hl (by omega)⟩⟩
theorem Lg.below {c : Cx} {k : Nat} {w : World} {T : TypeId} {g : Nat} {b0 b1 : Array Value} {s : Ms} {W W' : World} (h : Lg c k w T g b0 b1 s W) (hb : Below W.heap.size W W') : Lg c k w T g b0 b1 s W' ∧ Kp w g W W' := h.call (.of h.b.p.1 hb)
theorem Lg.set {c : Cx} {k : Nat} {w : World} {T : TypeId} {g : Nat} {b0 b1 : Array Value} {s : Ms} {W : World} (h : Lg c k w T g b0 b1 s W) (i : Nat) (v : Value) : Lg c k w T g b0 (b1.setIfInBounds i v) s (W.setCell ⟨g, i, none⟩ v) ∧ Kp w g W (W.setCell ⟨g, i, none⟩ v) := by
  have hg := h.hg
  exact ⟨⟨⟨h.b.p.set h.b.hN (by show _ ≤ g; omega) v, (Below.heap_setCell _ _ _ _ (by show w.heap.size ≠ g; omega)).trans h.b.h0, h.b.hN⟩, Lib.heap_setCell_same h.h1 v, h.hg⟩, ⟨by simp [World.setCell], fun b _ hb _ => Below.heap_setCell _ _ _ _ hb⟩⟩
theorem Lg.fin {c : Cx} {k : Nat} {w : World} {T : TypeId} {g : Nat} {b0 b1 : Array Value} {s : Ms} {W : World} (h : Lg c k w T g b0 b1 s W) (i : Nat) (v : Value) : Lg c k w T g (b0.setIfInBounds i v) b1 s (W.setCell ⟨w.heap.size, i, none⟩ v) ∧ Kp w g W (W.setCell ⟨w.heap.size, i, none⟩ v) := by
  have hg := h.hg
  exact ⟨⟨h.b.fin i v, (Below.heap_setCell _ _ _ _ (by show g ≠ w.heap.size; omega)).trans h.h1, h.hg⟩, ⟨by simp [World.setCell], fun b hb _ _ => Below.heap_setCell _ _ _ _ (by show b ≠ w.heap.size; omega)⟩⟩
theorem dg_of {c : Cx} {k : Nat} {w : World} {T : TypeId} {g : Nat} {b0 b1 : Array Value} {s : Ms} {W W' : World} (h : Lg c k w T g b0 b1 s W) : ∀ b, (W.heap.size ≤ b ∧ b < W'.heap.size) → Dg w g W' b := fun _ hd => ⟨by have := h.b.sz; omega, by have := h.lt; omega, hd.2⟩
theorem dg_fin {w W : World} {g : Nat} : ∀ b, Dg w g W b → w.heap.size ≤ b ∧ b < W.heap.size := fun _ hd => ⟨by have := hd.1; omega, hd.2.2⟩

theorem Lg.finE {c : Cx} {k : Nat} {w : World} {T : TypeId} {g : Nat} {b0 b1 : Array Value} {s : Ms} {W : World} (h : Lg c k w T g b0 b1 s W) (i : Nat) (v : Value) {b0' : Array Value} (hb : b0.setIfInBounds i v = b0') : Lg c k w T g b0' b1 s (W.setCell ⟨w.heap.size, i, none⟩ v) ∧ Kp w g W (W.setCell ⟨w.heap.size, i, none⟩ v) := by
  subst hb
  exact h.fin i v
theorem Lb.finE {c : Cx} {k : Nat} {w : World} {T : TypeId} {b0 : Array Value} {s : Ms} {W : World} (h : Lb c k w T b0 s W) (i : Nat) (v : Value) {b0' : Array Value} (hb : b0.setIfInBounds i v = b0') : Lb c k w T b0' s (W.setCell ⟨w.heap.size, i, none⟩ v) := by
  subst hb
  exact h.fin i v
/-- Seven cells into the box. -/
theorem Lg.fin7 {c : Cx} {k : Nat} {w : World} {T : TypeId} {g : Nat} {b1 : Array Value} {s : Ms} {W : World} {z0 z1 z2 z3 z4 z5 z6 : Value} (h : Lg c k w T g #[z0, z1, z2, z3, z4, z5, z6] b1 s W) (c0 c1 c2 c3 c4 c5 c6 : Value) :
    Lg c k w T g #[c0, c1, c2, c3, c4, c5, c6] b1 s (((((((W.setCell ⟨w.heap.size, 0, none⟩ c0).setCell ⟨w.heap.size, 1, none⟩ c1).setCell ⟨w.heap.size, 2, none⟩ c2).setCell ⟨w.heap.size, 3, none⟩ c3).setCell ⟨w.heap.size, 4, none⟩ c4).setCell ⟨w.heap.size, 5, none⟩ c5).setCell ⟨w.heap.size, 6, none⟩ c6) ∧
    Kp w g W (((((((W.setCell ⟨w.heap.size, 0, none⟩ c0).setCell ⟨w.heap.size, 1, none⟩ c1).setCell ⟨w.heap.size, 2, none⟩ c2).setCell ⟨w.heap.size, 3, none⟩ c3).setCell ⟨w.heap.size, 4, none⟩ c4).setCell ⟨w.heap.size, 5, none⟩ c5).setCell ⟨w.heap.size, 6, none⟩ c6) := by
  have U0 := h.finE 0 c0 (b0' := #[c0, z1, z2, z3, z4, z5, z6]) rfl
  have U1 := U0.1.finE 1 c1 (b0' := #[c0, c1, z2, z3, z4, z5, z6]) rfl
  have U2 := U1.1.finE 2 c2 (b0' := #[c0, c1, c2, z3, z4, z5, z6]) rfl
  have U3 := U2.1.finE 3 c3 (b0' := #[c0, c1, c2, c3, z4, z5, z6]) rfl
  have U4 := U3.1.finE 4 c4 (b0' := #[c0, c1, c2, c3, c4, z5, z6]) rfl
  have U5 := U4.1.finE 5 c5 (b0' := #[c0, c1, c2, c3, c4, c5, z6]) rfl
  have U6 := U5.1.finE 6 c6 (b0' := #[c0, c1, c2, c3, c4, c5, c6]) rfl
  exact ⟨U6.1, (((((U0.2.trans U1.2).trans U2.2).trans U3.2).trans U4.2).trans U5.2).trans U6.2⟩
theorem Lb.fin7 {c : Cx} {k : Nat} {w : World} {T : TypeId} {s : Ms} {W : World} {z0 z1 z2 z3 z4 z5 z6 : Value} (h : Lb c k w T #[z0, z1, z2, z3, z4, z5, z6] s W) (c0 c1 c2 c3 c4 c5 c6 : Value) :
    Lb c k w T #[c0, c1, c2, c3, c4, c5, c6] s (((((((W.setCell ⟨w.heap.size, 0, none⟩ c0).setCell ⟨w.heap.size, 1, none⟩ c1).setCell ⟨w.heap.size, 2, none⟩ c2).setCell ⟨w.heap.size, 3, none⟩ c3).setCell ⟨w.heap.size, 4, none⟩ c4).setCell ⟨w.heap.size, 5, none⟩ c5).setCell ⟨w.heap.size, 6, none⟩ c6) := by
  have U0 := h.finE 0 c0 (b0' := #[c0, z1, z2, z3, z4, z5, z6]) rfl
  have U1 := U0.finE 1 c1 (b0' := #[c0, c1, z2, z3, z4, z5, z6]) rfl
  have U2 := U1.finE 2 c2 (b0' := #[c0, c1, c2, z3, z4, z5, z6]) rfl
  have U3 := U2.finE 3 c3 (b0' := #[c0, c1, c2, c3, z4, z5, z6]) rfl
  have U4 := U3.finE 4 c4 (b0' := #[c0, c1, c2, c3, c4, z5, z6]) rfl
  have U5 := U4.finE 5 c5 (b0' := #[c0, c1, c2, c3, c4, c5, z6]) rfl
  exact U5.finE 6 c6 (b0' := #[c0, c1, c2, c3, c4, c5, c6]) rfl
theorem seven_other (W : World) (B b : Nat) (h : b ≠ B) (c0 c1 c2 c3 c4 c5 c6 : Value) : (((((((W.setCell ⟨B, 0, none⟩ c0).setCell ⟨B, 1, none⟩ c1).setCell ⟨B, 2, none⟩ c2).setCell ⟨B, 3, none⟩ c3).setCell ⟨B, 4, none⟩ c4).setCell ⟨B, 5, none⟩ c5).setCell ⟨B, 6, none⟩ c6).heap[b]? = W.heap[b]? := by
  rw [Below.heap_setCell _ _ _ _ h, Below.heap_setCell _ _ _ _ h, Below.heap_setCell _ _ _ _ h, Below.heap_setCell _ _ _ _ h, Below.heap_setCell _ _ _ _ h, Below.heap_setCell _ _ _ _ h, Below.heap_setCell _ _ _ _ h]
theorem seven_size (W : World) (B : Nat) (c0 c1 c2 c3 c4 c5 c6 : Value) : (((((((W.setCell ⟨B, 0, none⟩ c0).setCell ⟨B, 1, none⟩ c1).setCell ⟨B, 2, none⟩ c2).setCell ⟨B, 3, none⟩ c3).setCell ⟨B, 4, none⟩ c4).setCell ⟨B, 5, none⟩ c5).setCell ⟨B, 6, none⟩ c6).heap.size = W.heap.size := by simp [World.setCell]

end Go.Proofs.YtkfllppggjhhmaaGreatDoor
/-
  doc's parser: a spread, an inline fragment.
-/
namespace Go.Proofs.YtkfllppggjhhmaaGreatDoor
open Go.RowKit

theorem SelE.one {w : World} {D : Nat → Prop} {n : Nat} {kk : Int} {al nm on_ : Nm} {args : List ArgT} {dirs : List DirT} {sels : List SelT} {va vd vs : Value} (h1 : al.length ≤ 2000000) (h2 : nm.length ≤ 2000000) (h3 : on_.length ≤ 2000000) (ha : RowD ArgE 5 w D args va) (hd : RowD DirE 2 w D dirs vd) (hs : RowD (SelE n) 7 w D sels vs) :
    SelE (n + 1) w D (.mk kk al nm on_ args dirs sels) [.int .i64 (kk : Int), .string ⟨al.toArray⟩, .string ⟨nm.toArray⟩, .string ⟨on_.toArray⟩, va, vd, vs] := ⟨⟨h1, h2, h3⟩, va, vd, vs, rfl, ha, hd, hs⟩

set_option maxHeartbeats 4000000 in
set_option maxRecDepth 100000 in
theorem pSpread_any {c : Cx} {k f : Nat} {s : Ms} (w : World) (h : Pv c k s w) : Calls Tryz.prog 279 #[.pointer (some ⟨c.R, 0, none⟩)] w (RecAns (SelE (f + 1)) c k w (spM c.z s)) := by
  have L0 := Lb.new h 49 #[.int .i64 0, .string ⟨#[]⟩, .string ⟨#[]⟩, .string ⟨#[]⟩, .slice none 0 0, .slice none 0 0, .slice none 0 0]
  have HL0 := Lib.hid L0
  have HC1 := pNm_any _ L0.p.1
  have HM := Lib.hid (show spM c.z s = (.mk 2 [] (nmM c.z s).1 [] [] (dirM c.z (nmM c.z s).2).1 [], (dirM c.z (nmM c.z s).2).2) from rfl)
  have HZ := Lib.hid (nmM_size h)
  generalize nmM c.z s = R1 at *
  generalize spM c.z s = RES at *
  obtain ⟨nm, s1⟩ := R1
  dsimp only at HC1 HM HZ
  clear L0 h
  go_enter Tryz.func279, Tryz.ntmps279
  go_wp2_with fail
  refine HC1.mono ?_
  rintro e w1 ⟨rfl, p1⟩
  have G1 := (HL0.out.call p1).made #[.int .i64 2, .string ⟨#[]⟩, .string ⟨nm.toArray⟩, .string ⟨#[]⟩, .slice none 0 0, .slice none 0 0, .slice none 0 0]
  have hlt := HL0.out.sz
  have hlt1 := (HL0.out.call p1).sz
  have HC2 := pDirs_any _ G1.b.p.1
  have HG1 := Lib.hid G1
  clear p1 G1 HC1 HL0
  go_wp2_with fail
  refine HC2.mono ?_
  rintro e w3 ⟨v, rfl, hR, p3⟩
  have G3 := HG1.out.call p3
  have hd := RowD.step (D' := Dg w w1.heap.size w3) (w' := w3) dirOk (dg_of HG1.out) (fun _ _ _ => rfl) hR
  obtain ⟨va, vc, rfl⟩ := hR.shape
  have T1 := G3.1.set 5 (.slice va (dirM c.z s1).1.length vc)
  have U := T1.1.fin7 (.int .i64 2) (.string ⟨#[]⟩) (.string ⟨nm.toArray⟩) (.string ⟨#[]⟩) (.slice none 0 0) (.slice va (dirM c.z s1).1.length vc) (.slice none 0 0)
  have HK := Lib.hid (T1.2.trans U.2)
  have HRD := Lib.hid hd
  have HU := Lib.hid U.1
  obtain ⟨b0, b1, b2, b3, b4, b5, b6, bf, bl⟩ := blk7 G3.1.h1
  obtain ⟨a0, a1, a2, a3, a4, a5, a6, af, al⟩ := blk7 G3.1.b.h0
  obtain ⟨f0, f1, f2, f3, f4, f5, f6, -, -⟩ := blk7 U.1.b.h0
  have HF := Lib.hid (And.intro f0 (And.intro f1 (And.intro f2 (And.intro f3 (And.intro f4 (And.intro f5 f6))))))
  have hbw : w1.heap.size ≠ w.heap.size := by omega
  clear p3 G3 HC2 HG1 hR hd T1 U f0 f1 f2 f3 f4 f5 f6
  go_wp2_with fail
  obtain ⟨f0, f1, f2, f3, f4, f5, f6⟩ := HF.out
  refine bodyPost_ret (v := .agg #[.int .i64 2, .string ⟨#[]⟩, .string ⟨nm.toArray⟩, .string ⟨#[]⟩, .slice none 0 0, .slice va (dirM c.z s1).1.length vc, .slice none 0 0]) (by simp [results, Tryz.results279, go_sem, f0, f1, f2, f3, f4, f5, f6]) rfl ?_
  rw [HM.out]
  exact ⟨[.int .i64 2, .string ⟨#[]⟩, .string ⟨nm.toArray⟩, .string ⟨#[]⟩, .slice none 0 0, .slice va (dirM c.z s1).1.length vc, .slice none 0 0], rfl, (selOk (f + 1)).step dg_fin (fun _ _ _ => rfl) (SelE.one (by decide) HZ.out (by decide) .nil (HK.out.row dirOk HRD.out) .nil), HU.out.b.p⟩

/-- The contract of set that a selection is given. -/
def SetOk (c : Cx) (k f : Nat) : Prop := ∀ (s : Ms) (W : World), Pv c k s W → Calls Tryz.prog 190 #[.pointer (some ⟨c.R, 0, none⟩)] W (RowAns (SelE f) 7 c k W (setM c.z f s))

set_option maxHeartbeats 4000000 in
set_option maxRecDepth 100000 in
theorem pInline_any {c : Cx} {k f : Nat} {s : Ms} (w : World) (h : Pv c k s w) (ih : SetOk c k f) : Calls Tryz.prog 280 #[.pointer (some ⟨c.R, 0, none⟩)] w (RecAns (SelE (f + 1)) c k w (inM c.z (setM c.z f) s)) := by
  have G0 := (Lb.new h 49 #[.int .i64 0, .string ⟨#[]⟩, .string ⟨#[]⟩, .string ⟨#[]⟩, .slice none 0 0, .slice none 0 0, .slice none 0 0]).made #[.int .i64 3, .string ⟨#[]⟩, .string ⟨#[]⟩, .string ⟨#[]⟩, .slice none 0 0, .slice none 0 0, .slice none 0 0]
  have hgs : (w.alloc (.cells #[.int .i64 0, .string ⟨#[]⟩, .string ⟨#[]⟩, .string ⟨#[]⟩, .slice none 0 0, .slice none 0 0, .slice none 0 0] 49 (0, 0))).heap.size = w.heap.size + 1 := by simp
  rw [hgs] at G0
  have HC1 := pTakeWord_any onS _ G0.b.p.1
  have HM := Lib.hid (show inM c.z (setM c.z f) s = (.mk 3 [] [] (onM c.z s).1 [] (dirM c.z (onM c.z s).2).1 (setM c.z f (dirM c.z (onM c.z s).2).2).1, (setM c.z f (dirM c.z (onM c.z s).2).2).2) from rfl)
  have HO := Lib.hid (show onM c.z s = if isWd onS (hdT s.l) then nmM c.z (tlM s) else ([], s) from rfl)
  have HG0 := Lib.hid G0
  have HI := Lib.hid ih
  generalize onM c.z s = R1 at *
  generalize inM c.z (setM c.z f) s = RES at *
  obtain ⟨nm, s1⟩ := R1
  dsimp only at HM
  clear G0 h ih hgs
  go_enter Tryz.func280, Tryz.ntmps280
  go_wp2_with fail
  refine HC1.mono ?_
  rintro e w1 ⟨rfl, p1⟩
  have G1 := HG0.out.call p1
  have HG1 := Lib.hid G1.1
  obtain ⟨b0, b1, b2, b3, b4, b5, b6, bf, bl⟩ := blk7 G1.1.h1
  clear G1 HC1 HG0 p1
  go_upto_if 6 with fail
  go_cut [] (fun wc => Lg c k w 49 (w.heap.size + 1) #[.int .i64 0, .string ⟨#[]⟩, .string ⟨#[]⟩, .string ⟨#[]⟩, .slice none 0 0, .slice none 0 0, .slice none 0 0] #[.int .i64 3, .string ⟨#[]⟩, .string ⟨#[]⟩, .string ⟨nm.toArray⟩, .slice none 0 0, .slice none 0 0, .slice none 0 0] s1 wc ∧ nm.length ≤ 2000000)
  case first =>
    cases hi : isWd onS (hdT s.l) with
    | true =>
      rw [hi] at HO HG1
      simp only [reduceIte] at HO HG1
      have HC2 := pNm_any w1 HG1.out.b.p.1
      have HZ := Lib.hid (nmM_size HG1.out.b.p.1)
      rw [← HO.out] at HC2 HZ
      dsimp only at HC2 HZ
      clear hi HO HI
      go_wp2_with fail
      refine HC2.mono ?_
      rintro e w2 ⟨rfl, p2⟩
      have G2 := HG1.out.call p2
      have T2 := Lib.hid (G2.1.set 3 (.string ⟨nm.toArray⟩)).1
      clear b0 b1 b2 b3 b4 b5 b6 bf bl
      obtain ⟨b0, b1, b2, b3, b4, b5, b6, bf, bl⟩ := blk7 G2.1.h1
      clear p2 G2 HC2 HG1
      go_wp2_with fail
      go_meet
      case rel => exact ⟨T2.out, HZ.out⟩
    | false =>
      rw [hi] at HO HG1
      simp only [reduceIte, Bool.false_eq_true] at HO HG1
      have ho := HO.out
      injection ho with ho1 ho2
      subst ho1 ho2
      clear hi HO HI
      go_wp2_with fail
      go_meet
      case rel => exact ⟨HG1.out, by decide⟩
  case rest =>
    obtain ⟨G2, hz⟩ := hcut
    have HZ := Lib.hid hz
    have HC2 := pDirs_any _ G2.b.p.1
    have HG2 := Lib.hid G2
    clear G2 HG1 hz b0 b1 b2 b3 b4 b5 b6 bf bl
    go_wp2_with fail
    refine HC2.mono ?_
    rintro e w3 ⟨v, rfl, hR, p3⟩
    have G3 := HG2.out.call p3
    have hd := RowD.step (D' := Dg w (w.heap.size + 1) w3) (w' := w3) dirOk (dg_of HG2.out) (fun _ _ _ => rfl) hR
    generalize dirM c.z s1 = RD at *
    obtain ⟨ds, s2⟩ := RD
    dsimp only at HM hd G3 hR
    obtain ⟨va, vc, rfl⟩ := hR.shape
    have T3 := G3.1.set 5 (.slice va ds.length vc)
    have HC3 := HI.out _ _ T3.1.b.p.1
    have HD3 := Lib.hid (T3.2.row dirOk hd)
    have HT3 := Lib.hid T3.1
    obtain ⟨b0, b1, b2, b3, b4, b5, b6, bf, bl⟩ := blk7 G3.1.h1
    clear p3 G3 HC2 HG2 hR hd T3
    go_wp2_with fail
    refine HC3.mono ?_
    rintro e w4 ⟨v, rfl, hR, p4⟩
    have G4 := HT3.out.call p4
    have hd := RowD.step (D' := Dg w (w.heap.size + 1) w4) (w' := w4) (selOk f) (dg_of HT3.out) (fun _ _ _ => rfl) hR
    have hd3 := G4.2.row dirOk HD3.out
    generalize setM c.z f s2 = RS at *
    obtain ⟨ss, s4⟩ := RS
    dsimp only at HM hd G4 hR
    obtain ⟨xa, xc, rfl⟩ := hR.shape
    have T4 := G4.1.set 6 (.slice xa ss.length xc)
    have U := T4.1.fin7 (.int .i64 3) (.string ⟨#[]⟩) (.string ⟨#[]⟩) (.string ⟨nm.toArray⟩) (.slice none 0 0) (.slice va ds.length vc) (.slice xa ss.length xc)
    have HK := Lib.hid (T4.2.trans U.2)
    have HRD := Lib.hid hd
    have HRD3 := Lib.hid hd3
    have HU := Lib.hid U.1
    clear b0 b1 b2 b3 b4 b5 b6 bf bl
    obtain ⟨b0, b1, b2, b3, b4, b5, b6, bf, bl⟩ := blk7 G4.1.h1
    obtain ⟨a0, a1, a2, a3, a4, a5, a6, af, al⟩ := blk7 G4.1.b.h0
    obtain ⟨f0, f1, f2, f3, f4, f5, f6, -, -⟩ := blk7 U.1.b.h0
    have HF := Lib.hid (And.intro f0 (And.intro f1 (And.intro f2 (And.intro f3 (And.intro f4 (And.intro f5 f6))))))
    clear p4 G4 HC3 HT3 hR hd hd3 T4 U f0 f1 f2 f3 f4 f5 f6 HD3
    go_wp2_with fail
    obtain ⟨f0, f1, f2, f3, f4, f5, f6⟩ := HF.out
    refine bodyPost_ret (v := .agg #[.int .i64 3, .string ⟨#[]⟩, .string ⟨#[]⟩, .string ⟨nm.toArray⟩, .slice none 0 0, .slice va ds.length vc, .slice xa ss.length xc]) (by simp [results, Tryz.results280, go_sem, f0, f1, f2, f3, f4, f5, f6]) rfl ?_
    rw [HM.out]
    exact ⟨[.int .i64 3, .string ⟨#[]⟩, .string ⟨#[]⟩, .string ⟨nm.toArray⟩, .slice none 0 0, .slice va ds.length vc, .slice xa ss.length xc], rfl, (selOk (f + 1)).step dg_fin (fun _ _ _ => rfl) (SelE.one (by decide) (by decide) HZ.out .nil (HK.out.row dirOk HRD3.out) (HK.out.row (selOk f) HRD.out)), HU.out.b.p⟩

end Go.Proofs.YtkfllppggjhhmaaGreatDoor
