/-
  doc's parser: a selection, a selection set.
-/
import Derived.Test.YtkfllppggjhhmaaGreatDoorMSvSel
import Derived.Test.YtkfllppggjhhmaaGreatDoorMDa
import Derived.Deep.DeepCutAuto
namespace Go.Proofs.YtkfllppggjhhmaaGreatDoor
open Go.RowKit

theorem sel_boxed {c : Cx} {k k2 f : Nat} {w W w5 : World} {s s5 : Ms} {x : SelT} {z0 z1 z2 z3 z4 z5 z6 c0 c1 c2 c3 c4 c5 c6 : Value} {T : TypeId} (h : Lb c k w T #[z0, z1, z2, z3, z4, z5, z6] s W) (p5 : Pw c k2 s5 W w5) (hE : SelE (f + 1) w5 (fun b => W.heap.size ≤ b ∧ b < w5.heap.size) x [c0, c1, c2, c3, c4, c5, c6]) :
    (((((((w5.setCell ⟨w.heap.size, 0, none⟩ c0).setCell ⟨w.heap.size, 1, none⟩ c1).setCell ⟨w.heap.size, 2, none⟩ c2).setCell ⟨w.heap.size, 3, none⟩ c3).setCell ⟨w.heap.size, 4, none⟩ c4).setCell ⟨w.heap.size, 5, none⟩ c5).setCell ⟨w.heap.size, 6, none⟩ c6).heap[w.heap.size]? = some (.cells #[c0, c1, c2, c3, c4, c5, c6] T (0, 0)) ∧
    SelE (f + 1) (((((((w5.setCell ⟨w.heap.size, 0, none⟩ c0).setCell ⟨w.heap.size, 1, none⟩ c1).setCell ⟨w.heap.size, 2, none⟩ c2).setCell ⟨w.heap.size, 3, none⟩ c3).setCell ⟨w.heap.size, 4, none⟩ c4).setCell ⟨w.heap.size, 5, none⟩ c5).setCell ⟨w.heap.size, 6, none⟩ c6) (fun b => w.heap.size ≤ b ∧ b < (((((((w5.setCell ⟨w.heap.size, 0, none⟩ c0).setCell ⟨w.heap.size, 1, none⟩ c1).setCell ⟨w.heap.size, 2, none⟩ c2).setCell ⟨w.heap.size, 3, none⟩ c3).setCell ⟨w.heap.size, 4, none⟩ c4).setCell ⟨w.heap.size, 5, none⟩ c5).setCell ⟨w.heap.size, 6, none⟩ c6).heap.size) x [c0, c1, c2, c3, c4, c5, c6] ∧
    Pw c k2 s5 w (((((((w5.setCell ⟨w.heap.size, 0, none⟩ c0).setCell ⟨w.heap.size, 1, none⟩ c1).setCell ⟨w.heap.size, 2, none⟩ c2).setCell ⟨w.heap.size, 3, none⟩ c3).setCell ⟨w.heap.size, 4, none⟩ c4).setCell ⟨w.heap.size, 5, none⟩ c5).setCell ⟨w.heap.size, 6, none⟩ c6) := by
  have L5 := (h.call p5).fin7 c0 c1 c2 c3 c4 c5 c6
  have hs := h.sz
  refine ⟨L5.h0, (selOk (f + 1)).step (fun b hd => ⟨by omega, by rw [seven_size]; exact hd.2⟩) (fun b o hd => World.cell?_of_block (a := ⟨b, o, none⟩) (seven_other _ _ b (by omega) _ _ _ _ _ _ _)) hE, L5.p⟩

set_option maxHeartbeats 8000000 in
set_option maxRecDepth 100000 in
theorem pSel_any {c : Cx} {k f : Nat} {s : Ms} (w : World) (h : Pv c k s w) (ih : SetOk c k f) : Calls Tryz.prog 246 #[.pointer (some ⟨c.R, 0, none⟩)] w (RecAns (SelE (f + 1)) c k w (slM c.z (setM c.z f) s)) := by
  have L0 := Lb.new h 49 #[.int .i64 0, .string ⟨#[]⟩, .string ⟨#[]⟩, .string ⟨#[]⟩, .slice none 0 0, .slice none 0 0, .slice none 0 0]
  have HL0 := Lib.hid L0
  have HC1 := pTakeSign_any dotS _ L0.p.1
  have HM := Lib.hid (show slM c.z (setM c.z f) s = if isSg dotS (hdT s.l) then (if (hdT (tlM s).l).k == 1 && !isWd onS (hdT (tlM s).l) then spM c.z (tlM s) else inM c.z (setM c.z f) (tlM s)) else fiM c.z (setM c.z f) s from rfl)
  generalize slM c.z (setM c.z f) s = RES at *
  have HI := Lib.hid ih
  clear L0 h ih
  cases hi : isSg dotS (hdT s.l) with
  | false =>
    rw [hi] at HC1 HM
    simp only [reduceIte, Bool.false_eq_true] at HC1 HM
    clear hi
    go_enter Tryz.func246, Tryz.ntmps246
    go_wp2_with fail
    refine HC1.mono ?_
    rintro e w1 ⟨rfl, p1⟩
    have L1 := HL0.out.call p1
    have HLX := Lib.hid L1
    have HCALL := pField_any (f := f) w1 L1.p.1 HI.out
    generalize fiM c.z (setM c.z f) s = RV at *
    obtain ⟨x, s5⟩ := RV
    clear p1 L1 HC1 HL0
    go_wp2_with fail
    refine HCALL.mono ?_
    rintro e w5 ⟨es, hee, hE, p5⟩
    obtain ⟨hz1, va, vd, vs, rfl, ha1, hd1, hs1⟩ := hE
    obtain ⟨aa, ca, rfl⟩ := ha1.shape
    obtain ⟨ad, cd, rfl⟩ := hd1.shape
    obtain ⟨as7, cs7, rfl⟩ := hs1.shape
    have hE' : SelE (f + 1) w5 (fun b => w1.heap.size ≤ b ∧ b < w5.heap.size) x [.int .i64 (x.k : Int), .string ⟨x.al.toArray⟩, .string ⟨x.nm.toArray⟩, .string ⟨x.on_.toArray⟩, .slice aa x.args.length ca, .slice ad x.dirs.length cd, .slice as7 x.sels.length cs7] := ⟨hz1, _, _, _, rfl, ha1, hd1, hs1⟩
    have hee : e = .returned (.agg #[.int .i64 (x.k : Int), .string ⟨x.al.toArray⟩, .string ⟨x.nm.toArray⟩, .string ⟨x.on_.toArray⟩, .slice aa x.args.length ca, .slice ad x.dirs.length cd, .slice as7 x.sels.length cs7]) := hee
    subst hee
    have L5 := HLX.out.call p5
    have HX := Lib.hid (sel_boxed HLX.out p5 hE')
    obtain ⟨a0, a1, a2, a3, a4, a5, a6, af, al2⟩ := blk7 L5.h0
    obtain ⟨f0, f1, f2, f3, f4, f5, f6, -, -⟩ := blk7 HX.out.1
    have HF := Lib.hid (And.intro f0 (And.intro f1 (And.intro f2 (And.intro f3 (And.intro f4 (And.intro f5 f6))))))
    clear p5 L5 HCALL HLX hE' ha1 hd1 hs1 f0 f1 f2 f3 f4 f5 f6
    go_wp2_with fail
    obtain ⟨f0, f1, f2, f3, f4, f5, f6⟩ := HF.out
    refine bodyPost_ret (v := .agg #[.int .i64 (x.k : Int), .string ⟨x.al.toArray⟩, .string ⟨x.nm.toArray⟩, .string ⟨x.on_.toArray⟩, .slice aa x.args.length ca, .slice ad x.dirs.length cd, .slice as7 x.sels.length cs7]) (by simp [results, Tryz.results246, go_sem, f0, f1, f2, f3, f4, f5, f6]) rfl ?_
    rw [HM.out]
    exact ⟨[.int .i64 (x.k : Int), .string ⟨x.al.toArray⟩, .string ⟨x.nm.toArray⟩, .string ⟨x.on_.toArray⟩, .slice aa x.args.length ca, .slice ad x.dirs.length cd, .slice as7 x.sels.length cs7], rfl, HX.out.2.1, HX.out.2.2⟩
  | true =>
    rw [hi] at HC1 HM
    simp only [reduceIte] at HC1 HM
    clear hi
    have HNM := Lib.hid (fun W (h' : Pv c k (tlM s) W) => pName_any W h')
    have HWD := Lib.hid (fun W (h' : Pv c k (tlM s) W) => pWord_any onS W h')
    generalize tlM s = s1 at *
    cases hn : ((hdT s1.l).k == 1) with
    | false =>
      rw [hn, Bool.false_and] at HM
      simp only [reduceIte, Bool.false_eq_true] at HM
      go_enter Tryz.func246, Tryz.ntmps246
      go_wp2_with fail
      refine HC1.mono ?_
      rintro e w1 ⟨rfl, p1⟩
      have L1 := HL0.out.call p1
      have HL1 := Lib.hid L1
      have HC2 := HNM.out w1 L1.p.1
      rw [hn] at HC2
      clear p1 L1 HC1 HL0 hn
      go_wp2_with fail
      refine HC2.mono ?_
      rintro e w2 ⟨rfl, hb2⟩
      have L2 := HL1.out.below hb2
      have HLX := Lib.hid L2
      have HCALL := pInline_any (f := f) w2 L2.p.1 HI.out
      generalize inM c.z (setM c.z f) s1 = RV at *
      obtain ⟨x, s5⟩ := RV
      clear hb2 L2 HC2 HL1
      go_wp2_with fail
      refine HCALL.mono ?_
      rintro e w5 ⟨es, hee, hE, p5⟩
      obtain ⟨hz1, va, vd, vs, rfl, ha1, hd1, hs1⟩ := hE
      obtain ⟨aa, ca, rfl⟩ := ha1.shape
      obtain ⟨ad, cd, rfl⟩ := hd1.shape
      obtain ⟨as7, cs7, rfl⟩ := hs1.shape
      have hE' : SelE (f + 1) w5 (fun b => w2.heap.size ≤ b ∧ b < w5.heap.size) x [.int .i64 (x.k : Int), .string ⟨x.al.toArray⟩, .string ⟨x.nm.toArray⟩, .string ⟨x.on_.toArray⟩, .slice aa x.args.length ca, .slice ad x.dirs.length cd, .slice as7 x.sels.length cs7] := ⟨hz1, _, _, _, rfl, ha1, hd1, hs1⟩
      have hee : e = .returned (.agg #[.int .i64 (x.k : Int), .string ⟨x.al.toArray⟩, .string ⟨x.nm.toArray⟩, .string ⟨x.on_.toArray⟩, .slice aa x.args.length ca, .slice ad x.dirs.length cd, .slice as7 x.sels.length cs7]) := hee
      subst hee
      have L5 := HLX.out.call p5
      have HX := Lib.hid (sel_boxed HLX.out p5 hE')
      obtain ⟨a0, a1, a2, a3, a4, a5, a6, af, al2⟩ := blk7 L5.h0
      obtain ⟨f0, f1, f2, f3, f4, f5, f6, -, -⟩ := blk7 HX.out.1
      have HF := Lib.hid (And.intro f0 (And.intro f1 (And.intro f2 (And.intro f3 (And.intro f4 (And.intro f5 f6))))))
      clear p5 L5 HCALL HLX hE' ha1 hd1 hs1 f0 f1 f2 f3 f4 f5 f6
      go_wp2_with fail
      obtain ⟨f0, f1, f2, f3, f4, f5, f6⟩ := HF.out
      refine bodyPost_ret (v := .agg #[.int .i64 (x.k : Int), .string ⟨x.al.toArray⟩, .string ⟨x.nm.toArray⟩, .string ⟨x.on_.toArray⟩, .slice aa x.args.length ca, .slice ad x.dirs.length cd, .slice as7 x.sels.length cs7]) (by simp [results, Tryz.results246, go_sem, f0, f1, f2, f3, f4, f5, f6]) rfl ?_
      rw [HM.out]
      exact ⟨[.int .i64 (x.k : Int), .string ⟨x.al.toArray⟩, .string ⟨x.nm.toArray⟩, .string ⟨x.on_.toArray⟩, .slice aa x.args.length ca, .slice ad x.dirs.length cd, .slice as7 x.sels.length cs7], rfl, HX.out.2.1, HX.out.2.2⟩
    | true =>
      rw [hn, Bool.true_and] at HM
      cases ho : isWd onS (hdT s1.l) with
      | true =>
        rw [ho] at HM
        simp only [reduceIte, Bool.not_true, Bool.false_eq_true] at HM
        go_enter Tryz.func246, Tryz.ntmps246
        go_wp2_with fail
        refine HC1.mono ?_
        rintro e w1 ⟨rfl, p1⟩
        have L1 := HL0.out.call p1
        have HL1 := Lib.hid L1
        have HC2 := HNM.out w1 L1.p.1
        rw [hn] at HC2
        clear p1 L1 HC1 HL0 hn
        go_wp2_with fail
        refine HC2.mono ?_
        rintro e w2 ⟨rfl, hb2⟩
        have L2 := HL1.out.below hb2
        have HL2 := Lib.hid L2
        have HC3 := HWD.out w2 L2.p.1
        rw [ho] at HC3
        clear hb2 L2 HC2 HL1 ho
        go_wp2_with fail
        refine HC3.mono ?_
        rintro e w3 ⟨rfl, hb3⟩
        have L3 := HL2.out.below hb3
        have HLX := Lib.hid L3
        have HCALL := pInline_any (f := f) w3 L3.p.1 HI.out
        generalize inM c.z (setM c.z f) s1 = RV at *
        obtain ⟨x, s5⟩ := RV
        clear hb3 L3 HC3 HL2
        go_wp2_with fail
        refine HCALL.mono ?_
        rintro e w5 ⟨es, hee, hE, p5⟩
        obtain ⟨hz1, va, vd, vs, rfl, ha1, hd1, hs1⟩ := hE
        obtain ⟨aa, ca, rfl⟩ := ha1.shape
        obtain ⟨ad, cd, rfl⟩ := hd1.shape
        obtain ⟨as7, cs7, rfl⟩ := hs1.shape
        have hE' : SelE (f + 1) w5 (fun b => w3.heap.size ≤ b ∧ b < w5.heap.size) x [.int .i64 (x.k : Int), .string ⟨x.al.toArray⟩, .string ⟨x.nm.toArray⟩, .string ⟨x.on_.toArray⟩, .slice aa x.args.length ca, .slice ad x.dirs.length cd, .slice as7 x.sels.length cs7] := ⟨hz1, _, _, _, rfl, ha1, hd1, hs1⟩
        have hee : e = .returned (.agg #[.int .i64 (x.k : Int), .string ⟨x.al.toArray⟩, .string ⟨x.nm.toArray⟩, .string ⟨x.on_.toArray⟩, .slice aa x.args.length ca, .slice ad x.dirs.length cd, .slice as7 x.sels.length cs7]) := hee
        subst hee
        have L5 := HLX.out.call p5
        have HX := Lib.hid (sel_boxed HLX.out p5 hE')
        obtain ⟨a0, a1, a2, a3, a4, a5, a6, af, al2⟩ := blk7 L5.h0
        obtain ⟨f0, f1, f2, f3, f4, f5, f6, -, -⟩ := blk7 HX.out.1
        have HF := Lib.hid (And.intro f0 (And.intro f1 (And.intro f2 (And.intro f3 (And.intro f4 (And.intro f5 f6))))))
        clear p5 L5 HCALL HLX hE' ha1 hd1 hs1 f0 f1 f2 f3 f4 f5 f6
        go_wp2_with fail
        obtain ⟨f0, f1, f2, f3, f4, f5, f6⟩ := HF.out
        refine bodyPost_ret (v := .agg #[.int .i64 (x.k : Int), .string ⟨x.al.toArray⟩, .string ⟨x.nm.toArray⟩, .string ⟨x.on_.toArray⟩, .slice aa x.args.length ca, .slice ad x.dirs.length cd, .slice as7 x.sels.length cs7]) (by simp [results, Tryz.results246, go_sem, f0, f1, f2, f3, f4, f5, f6]) rfl ?_
        rw [HM.out]
        exact ⟨[.int .i64 (x.k : Int), .string ⟨x.al.toArray⟩, .string ⟨x.nm.toArray⟩, .string ⟨x.on_.toArray⟩, .slice aa x.args.length ca, .slice ad x.dirs.length cd, .slice as7 x.sels.length cs7], rfl, HX.out.2.1, HX.out.2.2⟩
      | false =>
        rw [ho] at HM
        simp only [reduceIte, Bool.not_false] at HM
        go_enter Tryz.func246, Tryz.ntmps246
        go_wp2_with fail
        refine HC1.mono ?_
        rintro e w1 ⟨rfl, p1⟩
        have L1 := HL0.out.call p1
        have HL1 := Lib.hid L1
        have HC2 := HNM.out w1 L1.p.1
        rw [hn] at HC2
        clear p1 L1 HC1 HL0 hn
        go_wp2_with fail
        refine HC2.mono ?_
        rintro e w2 ⟨rfl, hb2⟩
        have L2 := HL1.out.below hb2
        have HL2 := Lib.hid L2
        have HC3 := HWD.out w2 L2.p.1
        rw [ho] at HC3
        clear hb2 L2 HC2 HL1 ho
        go_wp2_with fail
        refine HC3.mono ?_
        rintro e w3 ⟨rfl, hb3⟩
        have L3 := HL2.out.below hb3
        have HLX := Lib.hid L3
        have HCALL := pSpread_any (f := f) w3 L3.p.1
        generalize spM c.z s1 = RV at *
        obtain ⟨x, s5⟩ := RV
        clear hb3 L3 HC3 HL2
        go_wp2_with fail
        refine HCALL.mono ?_
        rintro e w5 ⟨es, hee, hE, p5⟩
        obtain ⟨hz1, va, vd, vs, rfl, ha1, hd1, hs1⟩ := hE
        obtain ⟨aa, ca, rfl⟩ := ha1.shape
        obtain ⟨ad, cd, rfl⟩ := hd1.shape
        obtain ⟨as7, cs7, rfl⟩ := hs1.shape
        have hE' : SelE (f + 1) w5 (fun b => w3.heap.size ≤ b ∧ b < w5.heap.size) x [.int .i64 (x.k : Int), .string ⟨x.al.toArray⟩, .string ⟨x.nm.toArray⟩, .string ⟨x.on_.toArray⟩, .slice aa x.args.length ca, .slice ad x.dirs.length cd, .slice as7 x.sels.length cs7] := ⟨hz1, _, _, _, rfl, ha1, hd1, hs1⟩
        have hee : e = .returned (.agg #[.int .i64 (x.k : Int), .string ⟨x.al.toArray⟩, .string ⟨x.nm.toArray⟩, .string ⟨x.on_.toArray⟩, .slice aa x.args.length ca, .slice ad x.dirs.length cd, .slice as7 x.sels.length cs7]) := hee
        subst hee
        have L5 := HLX.out.call p5
        have HX := Lib.hid (sel_boxed HLX.out p5 hE')
        obtain ⟨a0, a1, a2, a3, a4, a5, a6, af, al2⟩ := blk7 L5.h0
        obtain ⟨f0, f1, f2, f3, f4, f5, f6, -, -⟩ := blk7 HX.out.1
        have HF := Lib.hid (And.intro f0 (And.intro f1 (And.intro f2 (And.intro f3 (And.intro f4 (And.intro f5 f6))))))
        clear p5 L5 HCALL HLX hE' ha1 hd1 hs1 f0 f1 f2 f3 f4 f5 f6
        go_wp2_with fail
        obtain ⟨f0, f1, f2, f3, f4, f5, f6⟩ := HF.out
        refine bodyPost_ret (v := .agg #[.int .i64 (x.k : Int), .string ⟨x.al.toArray⟩, .string ⟨x.nm.toArray⟩, .string ⟨x.on_.toArray⟩, .slice aa x.args.length ca, .slice ad x.dirs.length cd, .slice as7 x.sels.length cs7]) (by simp [results, Tryz.results246, go_sem, f0, f1, f2, f3, f4, f5, f6]) rfl ?_
        rw [HM.out]
        exact ⟨[.int .i64 (x.k : Int), .string ⟨x.al.toArray⟩, .string ⟨x.nm.toArray⟩, .string ⟨x.on_.toArray⟩, .slice aa x.args.length ca, .slice ad x.dirs.length cd, .slice as7 x.sels.length cs7], rfl, HX.out.2.1, HX.out.2.2⟩

/-! ### sets -/
theorem onM_fwd (z : Nat) (s : Ms) : Fwd s (onM z s).2 := by
  unfold onM
  split
  · exact (Fwd.trans ⟨tl_le s, id⟩ (nmM_eats z _).fwd)
  · exact .refl s
theorem alM_fwd (z : Nat) (n : Nm × Ms) : Fwd n.2 (alM z n).2 := by
  unfold alM
  split
  · exact (Fwd.trans ⟨tl_le n.2, id⟩ (nmM_eats z _).fwd)
  · exact .refl _
theorem ssM_fwd {S : Ms → List SelT × Ms} (hS : ∀ s, Fwd s (S s).2) (s : Ms) : Fwd s (ssM S s).2 := by
  unfold ssM
  split
  · exact hS s
  · exact .refl s
theorem slM_eats (z : Nat) {S : Ms → List SelT × Ms} (hS : ∀ s, Fwd s (S s).2) (s : Ms) : Eats s (slM z S s).2 := by
  unfold slM
  split
  · rename_i h
    have h1 := tl_eats (sgT_k h)
    split
    · exact h1.then ((nmM_eats z _).fwd.trans (dirM_fwd z _))
    · exact h1.then (((onM_fwd z _).trans (dirM_fwd z _)).trans (hS _))
  · exact (nmM_eats z s).then ((((alM_fwd z _).trans (asM_fwd z _)).trans (dirM_fwd z _)).trans (ssM_fwd hS _))
theorem setM_eats (z : Nat) : ∀ (f : Nat) (s : Ms), Eats s (setM z f s).2
  | 0, s => by
    have h2 : Fwd s (if isSg [123] (hdT s.l) then failM z 4 s else s) := by
      split
      · exact (fail_eats z (by decide) s).fwd
      · exact .refl s
    exact h2.then (sgM_eats z [123] _)
  | f + 1, s => svM_eats z _ _ (fun s => (slM_eats z (fun s => (setM_eats z f s).fwd) s).fwd) s

theorem Pv.sets {c : Cx} {k : Nat} {s : Ms} {w : World} (h : Pv c k s w) (k' : Nat) (hk : k' ≤ 100) : Pw c k' s w (w.setCell ⟨c.R, 3, none⟩ (.int .i64 (k' : Int))) := by
  obtain ⟨m, p, hbk, hp, hm, hl⟩ := h.bk
  refine ⟨h.turn (m := m) (p := p) ?_ hp hm hl h.bad hk (fun b _ hb => Below.heap_setCell _ _ _ _ hb) (by simpa [World.setCell] using h.hN), (Aw.refl _ _ _).set _⟩
  rw [Lib.heap_setCell_same hbk]; rfl
theorem Pv.cell3 {c : Cx} {k : Nat} {s : Ms} {w : World} (h : Pv c k s w) : w.cell? ⟨c.R, 3, none⟩ = some (.int .i64 (k : Int)) ∧ (∀ j, w.frozen? ⟨c.R, j, none⟩ = false) := by
  obtain ⟨m, p, hbk, -, -, -⟩ := h.bk
  obtain ⟨-, -, -, c3, -, -, fz⟩ := prCell hbk
  exact ⟨c3, fz⟩

set_option maxHeartbeats 8000000 in
set_option maxRecDepth 100000 in
theorem pSet_tail {c : Cx} {k f : Nat} {s1 : Ms} (w W : World) (h : Pw c k s1 w W) (RES : List SelT × Ms) (hk : k ≤ 12) (HV : ∀ W', Pv c (k + 1) s1 W' → Calls Tryz.prog 245 #[.pointer (some ⟨c.R, 0, none⟩), .string ⟨#[123]⟩, .func (.func 246) #[.pointer (some ⟨c.R, 0, none⟩)] #[], .string ⟨#[125]⟩] W' (RowAns (SelE f) 7 c (k + 1) W' RES)) :
    Pw c (k + 1) s1 w (W.setCell ⟨c.R, 3, none⟩ (.int .i64 ((k : Int) + 1))) ∧ Calls Tryz.prog 245 #[.pointer (some ⟨c.R, 0, none⟩), .string ⟨#[123]⟩, .func (.func 246) #[.pointer (some ⟨c.R, 0, none⟩)] #[], .string ⟨#[125]⟩] (W.setCell ⟨c.R, 3, none⟩ (.int .i64 ((k : Int) + 1))) (RowAns (SelE f) 7 c (k + 1) (W.setCell ⟨c.R, 3, none⟩ (.int .i64 ((k : Int) + 1))) RES) := by
  have h1 := h.1.sets (k + 1) (by omega)
  rw [show ((k + 1 : Nat) : Int) = (k : Int) + 1 by omega] at h1
  exact ⟨h.trans h1, HV _ h1.1⟩
/-- The row that several hands back, where the sets are counted down. -/
theorem set_done {c : Cx} {k f : Nat} {s1 s2 : Ms} {w W w2 : World} {xs : List SelT} {v : Value} (hW : Pw c (k + 1) s1 w W) (hk : k ≤ 12) (hR : RowD (SelE f) 7 w2 (fun b => W.heap.size ≤ b ∧ b < w2.heap.size) xs v) (hp : Pw c (k + 1) s2 W w2) :
    RowAns (SelE f) 7 c k w (xs, s2) (.returned v) (w2.setCell ⟨c.R, 3, none⟩ (.int .i64 (k : Int))) := by
  have h2 := hW.trans hp
  have h3 := hp.1.sets k (by omega)
  have hs : (w2.setCell ⟨c.R, 3, none⟩ (.int .i64 (k : Int))).heap.size = w2.heap.size := by simp [World.setCell]
  have hz := hW.2.size
  have hN := hW.1.hN
  have hRN := hW.1.hR
  refine ⟨v, rfl, RowD.step (selOk f) (fun b hd => ⟨by omega, by rw [hs]; exact hd.2⟩) (fun b o hd => World.cell?_of_block (a := ⟨b, o, none⟩) (Below.heap_setCell _ _ _ _ (by show b ≠ c.R; omega))) hR, h2.trans h3⟩

set_option maxHeartbeats 4000000 in
set_option maxRecDepth 100000 in
/-- Where the first sign does not stand, no part is asked for. -/
theorem sevSelNone_any {c : Cx} {k f : Nat} {s : Ms} (b e : List UInt8) (w : World) (h : Pv c k s w) (hbad : (sgM c.z b s).er ≠ 0) :
    Calls Tryz.prog 245 #[.pointer (some ⟨c.R, 0, none⟩), .string ⟨b.toArray⟩, .func (.func 246) #[.pointer (some ⟨c.R, 0, none⟩)] #[], .string ⟨e.toArray⟩] w (RowAns (SelE f) 7 c k w ([], sgM c.z b s)) := by
  have HM := pMust_any b w h
  generalize sgM c.z b s = s1 at *
  have HH := Lib.hid h
  have HBD := Lib.hid hbad
  clear h hbad
  go_enter Tryz.func245, Tryz.ntmps245
  go_wp2_with fail
  refine HM.mono ?_
  rintro ee w1 ⟨rfl, hp1⟩
  have HP1 := Lib.hid hp1
  clear hp1 HM
  go_wp2_with fail
  go_loopg [9] 1 (fun _ v9 wr => v9 = .slice none 0 0 ∧ Pw c k s1 w wr)
  case atStart => exact ⟨rfl, HP1.out⟩
  case round =>
    obtain ⟨rfl, hp2⟩ := hrel
    obtain ⟨m, p, hbk, -, -, -⟩ := hp2.1.bk
    obtain ⟨-, -, -, -, c4, -, -⟩ := prCell hbk
    have hRr := hp2.1.lt
    have HPW := Lib.hid hp2
    have hne : ((s1.er : Int) == 0) = false := by have := HBD.out; rw [beq_eq_false_iff_ne]; omega
    clear hp2 hbk HP1
    go_wp2_with fail
    go_ret
    exact ⟨_, rfl, .nil, HPW.out⟩

set_option maxHeartbeats 8000000 in
set_option maxRecDepth 100000 in
theorem pSet_any {c : Cx} : ∀ (f k : Nat), k + f = 12 → SetOk c k f
  | 0, k, hkf => by
    intro s w h
    obtain rfl : k = 12 := by omega
    have HS := pSign_any [123] w h
    have HM := Lib.hid (show setM c.z 0 s = ([], sgM c.z [123] (if isSg [123] (hdT s.l) then failM c.z 4 s else s)) from rfl)
    obtain ⟨c3, fz⟩ := h.cell3
    rw [show ((12 : Nat) : Int) = 12 from rfl] at c3
    have hRlt := h.lt
    generalize setM c.z 0 s = RES at *
    have HH := Lib.hid h
    have e12 : ((12 : Int) == 12) = true := by decide
    have hw1 : IntKind.i64.wrap ((12 : Int) + 1) = 13 := by decide
    have hw2 : IntKind.i64.wrap ((13 : Int) - 1) = 12 := by decide
    cases hi : isSg [123] (hdT s.l) with
    | true =>
      rw [hi] at HS HM
      simp only [reduceIte] at HM
      have hbad : (sgM c.z [123] (failM c.z 4 s)).er ≠ 0 := (sgM_eats c.z [123] _).er (fail_er c.z (by decide) s)
      have HBAD := Lib.hid hbad
      have HV := Lib.hid (fun W' (h' : Pv c (12 + 1) (failM c.z 4 s) W') => sevSelNone_any (f := 0) [123] [125] W' h' hbad)
      clear hi hbad h
      go_enter Tryz.func190, Tryz.ntmps190
      go_wp2_with fail
      refine HS.mono ?_
      rintro e w1 ⟨rfl, hb1⟩
      have HF := pFail_any 4 w1 (HH.out.below hb1 HH.out.hN)
      have HB1 := Lib.hid hb1
      clear HS c3 fz hb1
      go_wp2_with fail
      refine HF.mono ?_
      rintro e w2 ⟨rfl, p2⟩
      have p3 := ((Pw.refl HH.out).below HB1.out).trans p2
      obtain ⟨hp1, HC⟩ := pSet_tail w w2 p3 _ (Nat.le_refl 12) HV.out
      rw [show ((12 : Nat) : Int) + 1 = 13 from rfl] at hp1 HC
      have HP1 := Lib.hid hp1
      obtain ⟨c3, fz⟩ := p2.1.cell3
      rw [show ((12 : Nat) : Int) = 12 from rfl] at c3
      have hR2 := p2.1.lt
      clear p2 p3 hp1 HF
      go_wp2_with fail
      refine HC.mono ?_
      rintro e w4 ⟨v, rfl, hR, p4⟩
      have HX := Lib.hid (set_done HP1.out (Nat.le_refl 12) hR p4)
      obtain ⟨d3, dz⟩ := p4.1.cell3
      have hR4 := p4.1.lt
      rw [show ((12 + 1 : Nat) : Int) = 13 from rfl] at d3
      obtain ⟨va, vc, rfl⟩ := hR.shape
      clear HC p4 hR c3 fz
      go_wp2_with fail
      go_ret
      rw [HM.out]
      exact HX.out
    | false =>
      rw [hi] at HS HM
      simp only [reduceIte, Bool.false_eq_true] at HM
      have hbad : (sgM c.z [123] s).er ≠ 0 := by
        unfold sgM
        rw [if_neg (by rw [hi]; decide)]
        exact fail_er c.z (by decide) s
      have HV := Lib.hid (fun W' (h' : Pv c (12 + 1) s W') => sevSelNone_any (f := 0) [123] [125] W' h' hbad)
      clear hi hbad h
      go_enter Tryz.func190, Tryz.ntmps190
      go_wp2_with fail
      refine HS.mono ?_
      rintro e w2 ⟨rfl, hb1⟩
      have p3 := (Pw.refl HH.out).below hb1
      obtain ⟨hp1, HC⟩ := pSet_tail w w2 p3 _ (Nat.le_refl 12) HV.out
      rw [show ((12 : Nat) : Int) + 1 = 13 from rfl] at hp1 HC
      have HP1 := Lib.hid hp1
      clear c3 fz
      obtain ⟨c3, fz⟩ := p3.1.cell3
      rw [show ((12 : Nat) : Int) = 12 from rfl] at c3
      have hR2 := p3.1.lt
      clear p3 hp1 HS hb1
      go_wp2_with fail
      refine HC.mono ?_
      rintro e w4 ⟨v, rfl, hR, p4⟩
      have HX := Lib.hid (set_done HP1.out (Nat.le_refl 12) hR p4)
      obtain ⟨d3, dz⟩ := p4.1.cell3
      have hR4 := p4.1.lt
      rw [show ((12 + 1 : Nat) : Int) = 13 from rfl] at d3
      obtain ⟨va, vc, rfl⟩ := hR.shape
      clear HC p4 hR c3 fz
      go_wp2_with fail
      go_ret
      rw [HM.out]
      exact HX.out
  | f + 1, k, hkf => by
    intro s w h
    have ih := pSet_any (c := c) f (k + 1) (by omega)
    have HV := fun W' (h' : Pv c (k + 1) s W') => sevSel_any (f := f + 1) [123] [125] (slM c.z (setM c.z f)) W' h' (fun s' W h2 => pSel_any W h2 ih) (fun s' _ h2 => (slM_eats c.z (fun s => (setM_eats c.z f s).fwd) s').lt h2)
    have HM := Lib.hid (show setM c.z (f + 1) s = svM c.z [123] [125] (slM c.z (setM c.z f)) s from rfl)
    have HT := pSet_tail w w (.refl h) _ (by omega) HV
    generalize svM c.z [123] [125] (slM c.z (setM c.z f)) s = RV at *
    generalize setM c.z (f + 1) s = RES at *
    obtain ⟨xs, s2⟩ := RV
    obtain ⟨hp1, HC⟩ := HT
    obtain ⟨c3, fz⟩ := h.cell3
    have hRlt := h.lt
    have hk12 : ((k : Int) == 12) = false := by rw [beq_eq_false_iff_ne]; omega
    have hkk : k ≤ 12 := by omega
    have hw1 : IntKind.i64.wrap ((k : Int) + 1) = (k : Int) + 1 := IntWalk.i64_in _ (by omega)
    have hw2 : IntKind.i64.wrap ((k : Int) + 1 - 1) = (k : Int) := by rw [show (k : Int) + 1 - 1 = (k : Int) by omega]; exact IntWalk.i64_in _ (by omega)
    have hw3 : IntKind.i64.wrap (k : Int) = (k : Int) := IntWalk.i64_in _ (by omega)
    have HP1 := Lib.hid hp1
    clear ih HV h hp1 hkf
    go_enter Tryz.func190, Tryz.ntmps190
    go_wp2_with fail
    refine HC.mono ?_
    rintro e w2 ⟨v, rfl, hR, p2⟩
    dsimp only at hR p2
    have HX := Lib.hid (set_done HP1.out hkk hR p2)
    obtain ⟨d3, dz⟩ := p2.1.cell3
    have hR2 := p2.1.lt
    rw [show ((k + 1 : Nat) : Int) = (k : Int) + 1 by omega] at d3
    obtain ⟨va, vc, rfl⟩ := hR.shape
    clear HC p2 hR c3 fz
    go_wp2_with fail
    go_ret
    rw [HM.out]
    exact HX.out

end Go.Proofs.YtkfllppggjhhmaaGreatDoor
/-
  doc's parser: a value without variables.
-/
namespace Go.Proofs.YtkfllppggjhhmaaGreatDoor
open Go.RowKit

theorem notVar_sg (t : Tk) : isSg [36] t = !notVar t := by unfold notVar; rw [Bool.not_not]

set_option maxHeartbeats 2000000 in
set_option maxRecDepth 100000 in
theorem begVar_any (t : Tk) (w : World) : Calls Tryz.prog 306 #[.agg #[.int .i64 t.k, .string ⟨t.s.toArray⟩, .int .i64 t.at_]] w fun e w' => e = .returned (.bool (isSg [36] t)) ∧ Below w.heap.size w w' := by
  have hb0 : Below w.heap.size w (w.alloc (.cells #[.int .i64 t.k, .string ⟨t.s.toArray⟩, .int .i64 t.at_] 150)) := (Below.refl _ w).alloc (Nat.le_refl _) _
  have HT := dSign_any t [36] (w.alloc (.cells #[.int .i64 t.k, .string ⟨t.s.toArray⟩, .int .i64 t.at_] 150))
  go_enter Tryz.func306, Tryz.ntmps306
  go_wp2_with fail
  refine HT.mono ?_
  rintro e w2 ⟨rfl, hb2⟩
  go_wp2_with fail
  go_ret
  exact ⟨rfl, hb0.trans (hb2.mono hb0.size)⟩

/-- The tokens that lie from ⟨g, off⟩ on. -/
def TokRow (w : World) (g off : Nat) (l : List Tk) : Prop := ∀ i t, l[i]? = some t → w.cell? ⟨g, off + i * 3, none⟩ = some (.int .i64 t.k) ∧ w.cell? ⟨g, off + i * 3 + 1, none⟩ = some (.string ⟨t.s.toArray⟩) ∧ w.cell? ⟨g, off + i * 3 + 2, none⟩ = some (.int .i64 t.at_)
theorem TokRow.below {w w' : World} {n g off : Nat} {l : List Tk} (h : TokRow w g off l) (hb : Below n w w') (hg : g < n) : TokRow w' g off l := fun i t ht => by
  have c : ∀ o, w'.cell? ⟨g, o, none⟩ = w.cell? ⟨g, o, none⟩ := fun o => World.cell?_of_block (a := ⟨g, o, none⟩) (hb.block g hg)
  obtain ⟨h0, h1, h2⟩ := h i t ht
  exact ⟨(c _).trans h0, (c _).trans h1, (c _).trans h2⟩
/-- Where the first variable begins. -/
def idxM (l : List Tk) : Int := if (l.takeWhile notVar).length < l.length then ((l.takeWhile notVar).length : Int) else -1
theorem tw_at {l : List Tk} {i : Nat} (h : i ≤ (l.takeWhile notVar).length) {t : Tk} (ht : l[i]? = some t) : (notVar t = true → i + 1 ≤ (l.takeWhile notVar).length) ∧ (notVar t = false → (l.takeWhile notVar).length = i) := by
  induction l generalizing i with
  | nil => simp at ht
  | cons a r ih =>
    cases ha : notVar a with
    | false =>
      have h0 : ((a :: r).takeWhile notVar).length = 0 := by rw [List.takeWhile_cons, if_neg (by rw [ha]; decide)]; rfl
      rw [h0] at h ⊢
      obtain rfl : i = 0 := by omega
      simp at ht
      subst ht
      exact ⟨fun e => absurd (ha.symm.trans e) (by decide), fun _ => rfl⟩
    | true =>
      have h0 : ((a :: r).takeWhile notVar).length = (r.takeWhile notVar).length + 1 := by rw [List.takeWhile_cons, if_pos ha]; rfl
      rw [h0] at h ⊢
      cases i with
      | zero =>
        simp at ht
        subst ht
        exact ⟨fun _ => by omega, fun e => absurd (ha.symm.trans e) (by decide)⟩
      | succ i =>
        have := ih (i := i) (by omega) (by simpa using ht)
        exact ⟨fun e => by have := this.1 e; omega, fun e => by have := this.2 e; omega⟩

set_option maxHeartbeats 2000000 in
set_option maxRecDepth 100000 in
theorem indexFunc_any {g off cp : Nat} {ra : Option Addr} (l : List Tk) (w : World) (hl : l.length ≤ 600) (hra : 0 < l.length → ra = some ⟨g, off, none⟩) (hg : 0 < l.length → g < w.heap.size) (hrow : TokRow w g off l) (hcp : l.length ≤ cp) :
    Calls Tryz.prog 305 #[.slice ra l.length cp, .func (.func 306) #[] #[]] w fun e w' => e = .returned (.int .i64 (idxM l)) ∧ Below w.heap.size w w' := by
  have HROW := Lib.hid hrow
  have HLE := Lib.hid (show (l.takeWhile notVar).length ≤ l.length from (List.takeWhile_prefix _).length_le)
  clear hrow
  go_enter Tryz.func305, Tryz.ntmps305
  go_wp2_with fail
  go_loopg [5, 8] l.length (fun j _ v8 wr => ∃ i : Nat, v8 = .int .i64 (i : Int) ∧ i ≤ l.length ∧ j = l.length - i ∧ i ≤ (l.takeWhile notVar).length ∧ Below w.heap.size w wr)
  case atStart => exact ⟨0, rfl, Nat.zero_le _, rfl, Nat.zero_le _, Below.refl _ _⟩
  case round =>
    obtain ⟨i, rfl, hi, hj, hit, hb⟩ := hrel
    have HB := Lib.hid hb
    have HIT := Lib.hid hit
    have hw : IntKind.i64.wrap ((i : Int) + 1) = (i : Int) + 1 := IntWalk.i64_in _ (by omega)
    by_cases hlt : i < l.length
    · have hd : decide ((i : Int) < (l.length : Int)) = true := decide_eq_true (by omega)
      have hd2 : decide (i < l.length) = true := decide_eq_true hlt
      have e1 := hra (by omega)
      subst e1
      have ht : l[i]? = some l[i] := List.getElem?_eq_getElem hlt
      obtain ⟨c0, c1, c2⟩ := (HROW.out.below hb (hg (by omega))) i _ ht
      have HT := begVar_any l[i] wr
      have HTW := Lib.hid (tw_at hit ht)
      generalize l[i] = t at *
      have hicp : i < cp := by omega
      cases hv : notVar t with
      | true =>
        rw [notVar_sg t, hv] at HT
        have HV := Lib.hid (HTW.out.1 hv)
        clear hit hb ht hv
        go_wp2_with fail
        refine HT.mono ?_
        rintro e w2 ⟨rfl, hb2⟩
        have HB2 := Lib.hid (HB.out.trans (hb2.mono HB.out.size))
        clear hb2
        go_wp2_with fail
        go_roundg (l.length - (i + 1))
        case measure => omega
        case rel => exact ⟨i + 1, by simp, by omega, rfl, HV.out, HB2.out⟩
      | false =>
        rw [notVar_sg t, hv] at HT
        have HI := Lib.hid (show idxM l = (i : Int) by
          have := HTW.out.2 hv
          unfold idxM
          rw [if_pos (by omega), this])
        clear hit hb ht hv
        go_wp2_with fail
        refine HT.mono ?_
        rintro e w2 ⟨rfl, hb2⟩
        have HB2 := Lib.hid (HB.out.trans (hb2.mono HB.out.size))
        clear hb2
        go_wp2_with fail
        go_ret
        exact ⟨by rw [HI.out]; rfl, HB2.out⟩
    · have hd : decide ((i : Int) < (l.length : Int)) = false := decide_eq_false (by omega)
      have hd2 : decide (i < l.length) = false := decide_eq_false hlt
      have HI := Lib.hid (show idxM l = -1 by unfold idxM; rw [if_neg (by have := HLE.out; omega)])
      clear hit hb
      go_wp2_with fail
      go_ret
      exact ⟨by rw [HI.out]; rfl, HB.out⟩

end Go.Proofs.YtkfllppggjhhmaaGreatDoor
