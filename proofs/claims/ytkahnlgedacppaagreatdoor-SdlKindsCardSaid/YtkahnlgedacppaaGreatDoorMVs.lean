/-
  The cursor: what stands next, what is taken, what is wrong.
-/
import Derived.Test.YtkahnlgedacppaaGreatDoorMKq1
import Derived.Test.YtkahnlgedacppaaGreatDoorMDm
import Derived.Test.YtkahnlgedacppaaGreatDoorMShelf
namespace Go.Proofs.YtkahnlgedacppaaGreatDoor
open Go.RowKit

set_option maxRecDepth 100000 in
theorem pSign_any {c : Cx} {k : Nat} {s : Ms} (g : List UInt8) (w : World) (h : Pv c k s w) : Calls Tryz.prog 194 #[.pointer (some ⟨c.R, 0, none⟩), .string ⟨g.toArray⟩] w fun e w' => e = .returned (.bool (isSg g (hdT s.l))) ∧ Below w.heap.size w w' := by
  have HT := ptoken_any w h
  clear h
  generalize hdT s.l = t at *
  go_enter Tryz.func194, Tryz.ntmps194
  go_wp2_with fail
  refine HT.mono ?_
  rintro e w1 ⟨rfl, hb⟩
  go_wp2_with fail
  refine (dSign_any t g w1).mono ?_
  rintro e w2 ⟨rfl, hb2⟩
  go_wp2_with fail
  go_ret
  exact ⟨rfl, hb.trans (hb2.mono hb.size)⟩

theorem kBeq (n : Nat) (m : Nat) : ((n : Int) == (m : Int)) = (n == m) := by
  rw [Bool.eq_iff_iff, beq_iff_eq, beq_iff_eq]; omega

theorem tokField (k0 : Int) (s0 : ByteArray) (a0 : Int) (W : World) : (Instr.field 197 (.agg #[.int .i64 k0, .string s0, .int .i64 a0]) 0).run Tryz.prog W = .ok (.int .i64 k0) W := by kernel_rfl
/-- The name that stands next; empty, if there is none. -/
theorem nxN_one {t : Tk} (h : t.k = 1) : nxN t = t.s := if_pos h
theorem nxN_no {t : Tk} (h : t.k ≠ 1) : nxN t = [] := if_neg h
theorem nxN_wd {g : List UInt8} (hg : g ≠ []) (t : Tk) : (nxN t == g) = isWd g t := by
  unfold isWd nxN
  by_cases h : t.k = 1
  · rw [if_pos h, show (t.k == 1) = true by simpa using h]; rfl
  · rw [if_neg h, show (t.k == 1) = false by simpa using h]
    cases g with
    | nil => exact absurd rfl hg
    | cons a r => rfl
set_option maxHeartbeats 2000000 in
set_option maxRecDepth 100000 in
theorem cNext_any {c : Cx} {k : Nat} {s : Ms} (w : World) (h : Pv c k s w) : Calls Tryz.prog 148 #[.pointer (some ⟨c.R, 0, none⟩)] w fun e w' => e = .returned (.string ⟨(nxN (hdT s.l)).toArray⟩) ∧ Below w.heap.size w w' := by
  have HT := ptoken_any w h
  clear h
  generalize hdT s.l = t at *
  have HBA := Lib.hid (fun (w1 : World) (hb : Below w.heap.size w w1) (o : Obj) => hb.alloc hb.size o)
  by_cases hk : t.k = 1
  · have hne : ((t.k : Int) == 1) = true := by simp; omega
    have HM := Lib.hid (nxN_one hk)
    clear hk
    go_enter Tryz.func148, Tryz.ntmps148
    go_wp2_with fail
    refine HT.mono ?_
    rintro e w1 ⟨rfl, hb⟩
    have HB := Lib.hid hb
    clear hb
    go_wp2_with fail
    go_ret
    rw [HM.out]
    exact ⟨rfl, HBA.out _ HB.out _⟩
  · have hne : ((t.k : Int) == 1) = false := by simp; omega
    have HM := Lib.hid (nxN_no hk)
    clear hk
    go_enter Tryz.func148, Tryz.ntmps148
    go_wp2_with fail
    refine HT.mono ?_
    rintro e w1 ⟨rfl, hb⟩
    have HB := Lib.hid hb
    clear hb
    go_wp2_with fail
    go_ret
    rw [HM.out]
    exact ⟨rfl, HBA.out _ HB.out _⟩

/-- The parser behind a token. -/
theorem Pv.next {c : Cx} {k : Nat} {s : Ms} {w : World} (h : Pv c k s w) {m p : Nat} (hbk : w.heap[c.R]? = some (crCells c m p s.er s.wr)) (hm : m ≤ c.ts.length) (hl : (c.ts.take m).drop p = s.l) (hp : p < m) :
    Pw c k (tlM s) w (w.setCell ⟨c.R, 1, none⟩ (.int .i64 ((p : Int) + 1))) := by
  refine ⟨h.turn (m := m) (p := p + 1) ?_ (by omega) hm ?_ (bad_tl h.bad) (fun b _ hb => Below.heap_setCell _ _ _ _ hb) (by simpa [World.setCell] using h.hN), (Aw.refl _ _ _).set _⟩
  · rw [Lib.heap_setCell_same hbk]; rfl
  · show _ = s.l.tail
    rw [← hl, List.tail_drop]

theorem sg_pos {c : Cx} {k : Nat} {s : Ms} {w : World} (h : Pv c k s w) {m p : Nat} (hp : p ≤ m) (hm : m ≤ c.ts.length) (hl : (c.ts.take m).drop p = s.l) (hk : (hdT s.l).k ≠ 0) : p < m := by
  rcases h.tok hp hm hl with ⟨_, e⟩ | ⟨h, _⟩
  · rw [e] at hk; exact absurd rfl hk
  · exact h

set_option maxHeartbeats 2000000 in
set_option maxRecDepth 100000 in
/-- It goes behind the next token, if b says so. -/
theorem cPass_any {c : Cx} {k : Nat} {s : Ms} (b : Bool) (w : World) (h : Pv c k s w) (hb : b = true → (hdT s.l).k ≠ 0) : Calls Tryz.prog 184 #[.pointer (some ⟨c.R, 0, none⟩), .bool b] w fun e w' => e = .returned (.bool b) ∧ Pw c k (if b then tlM s else s) w w' := by
  cases b with
  | false =>
    have HH := Lib.hid (Pw.of h (Below.refl _ w))
    clear h hb
    go_enter Tryz.func184, Tryz.ntmps184
    go_wp2_with fail
    go_ret
    exact ⟨rfl, HH.out⟩
  | true =>
    obtain ⟨m, p, hbk, hp, hm, hl⟩ := h.bk
    have hlt := sg_pos h hp hm hl (hb rfl)
    have HN := Lib.hid (h.next hbk hm hl hlt)
    obtain ⟨-, c1, -, -, -, fz, hRl⟩ := prCell hbk
    have hw : IntKind.i64.wrap ((p : Int) + 1) = (p : Int) + 1 := IntWalk.i64_in _ (by have := h.hs; omega)
    clear h hb hbk hl hm hp hlt
    go_enter Tryz.func184, Tryz.ntmps184
    go_wp2_with fail
    go_ret
    exact ⟨rfl, HN.out⟩
/-- What is passed by what stands next. -/
theorem cPass_then {c : Cx} {k : Nat} {s : Ms} {w0 : World} (h0 : Pv c k s w0) (x b : Bool) (w : World) (hw : Below w0.heap.size w0 w) (e : x = b) (hb : b = true → (hdT s.l).k ≠ 0) : Calls Tryz.prog 184 #[.pointer (some ⟨c.R, 0, none⟩), .bool x] w fun e w' => e = .returned (.bool b) ∧ Pw c k (if b then tlM s else s) w0 w' := by
  subst e
  refine (cPass_any x w (h0.below hw h0.hN) hb).mono ?_
  rintro e w2 ⟨rfl, hp⟩
  exact ⟨rfl, hp.1, (Aw.of hw).trans (hp.2.mono hw.size)⟩
theorem sgT_k {g : List UInt8} {t : Tk} (h : isSg g t = true) : t.k ≠ 0 := by
  unfold isSg at h
  rw [Bool.and_eq_true, beq_iff_eq] at h
  rw [h.1]; decide
theorem wdT_k {g : List UInt8} {t : Tk} (h : isWd g t = true) : t.k ≠ 0 := by
  unfold isWd at h
  rw [Bool.and_eq_true, beq_iff_eq] at h
  rw [h.1]; decide

set_option maxHeartbeats 2000000 in
set_option maxRecDepth 100000 in
theorem pTakeSign_any {c : Cx} {k : Nat} {s : Ms} (g : List UInt8) (w : World) (h : Pv c k s w) : Calls Tryz.prog 182 #[.pointer (some ⟨c.R, 0, none⟩), .string ⟨g.toArray⟩] w fun e w' => e = .returned (.bool (isSg g (hdT s.l))) ∧ Pw c k (if isSg g (hdT s.l) then tlM s else s) w w' := by
  have HS := pSign_any g w h
  have HP := fun w1 hb => cPass_then h (isSg g (hdT s.l)) _ w1 hb rfl sgT_k
  clear h
  generalize isSg g (hdT s.l) = b at *
  generalize (if b = true then tlM s else s) = s2 at *
  go_enter Tryz.func182, Tryz.ntmps182
  go_wp2_with fail
  refine HS.mono ?_
  rintro e w1 ⟨rfl, hb⟩
  have HP1 := HP w1 hb
  clear HP hb
  go_wp2_with fail
  refine HP1.mono ?_
  rintro e w2 ⟨rfl, hp⟩
  go_wp2_with fail
  go_ret
  exact ⟨rfl, hp⟩

set_option maxHeartbeats 2000000 in
set_option maxRecDepth 100000 in
theorem pTakeWord_any {c : Cx} {k : Nat} {s : Ms} (g : List UInt8) (hg : g ≠ []) (w : World) (h : Pv c k s w) : Calls Tryz.prog 138 #[.pointer (some ⟨c.R, 0, none⟩), .string ⟨g.toArray⟩] w fun e w' => e = .returned (.bool (isWd g (hdT s.l))) ∧ Pw c k (if isWd g (hdT s.l) then tlM s else s) w w' := by
  have HS := cNext_any w h
  have HP := fun x w1 hb e => cPass_then h x (isWd g (hdT s.l)) w1 hb e wdT_k
  have HE := Lib.hid (nxN_wd hg (hdT s.l))
  clear h
  generalize isWd g (hdT s.l) = b at *
  generalize nxN (hdT s.l) = nx at *
  generalize (if b = true then tlM s else s) = s2 at *
  go_enter Tryz.func138, Tryz.ntmps138
  go_wp2_with fail
  refine HS.mono ?_
  rintro e w1 ⟨rfl, hb⟩
  have HP1 := fun x e => HP x w1 hb e
  clear HP hb
  go_wp2_with fail
  refine (HP1 _ (Eq.trans ?_ HE.out)).mono ?_
  · rfl
  rintro e w2 ⟨rfl, hp⟩
  go_wp2_with fail
  go_ret
  exact ⟨rfl, hp⟩

set_option maxHeartbeats 2000000 in
set_option maxRecDepth 100000 in
theorem cTakeText_any {c : Cx} {k : Nat} {s : Ms} (w : World) (h : Pv c k s w) : Calls Tryz.prog 147 #[.pointer (some ⟨c.R, 0, none⟩)] w fun e w' => e = .returned (.bool ((hdT s.l).k == 4)) ∧ Pw c k (if (hdT s.l).k == 4 then tlM s else s) w w' := by
  have HT := ptoken_any w h
  have HP := fun x w1 hb e => cPass_then h x ((hdT s.l).k == 4) w1 hb e (fun h => by rw [beq_iff_eq] at h; rw [h]; decide)
  clear h
  have HE := Lib.hid (kBeq (hdT s.l).k 4)
  generalize hdT s.l = t at *
  have HF := tokField t.k ⟨t.s.toArray⟩ t.at_
  generalize (t.k == 4) = b at *
  generalize (if b = true then tlM s else s) = s2 at *
  go_enter Tryz.func147, Tryz.ntmps147
  go_wp2_with fail
  refine HT.mono ?_
  rintro e w1 ⟨rfl, hb⟩
  have HP1 := fun x e => HP x w1 hb e
  clear HP hb
  go_wp2_with fail
  refine (HP1 _ (Eq.trans ?_ HE.out)).mono ?_
  · rfl
  rintro e w2 ⟨rfl, hp⟩
  go_wp2_with fail
  go_ret
  exact ⟨rfl, hp⟩

/-- The parser behind its first fault. -/
theorem Pv.failed {c : Cx} {k e x : Nat} {s : Ms} {w W : World} (h : Pv c k s w) (h0 : s.er = 0) {m p : Nat} (hm : m ≤ c.ts.length) (hp : p ≤ m) (hx : W.heap[c.R]? = some (crCells c p p e x)) (hxe : x = plM c.z s.l)
    (ho : ∀ b, b ≠ c.R → W.heap[b]? = w.heap[b]?) (hW : W.heap.size = w.heap.size) (os : W.os = w.os) (tp : W.tape = w.tape) (out : W.output = w.output) : Pw c k (failM c.z e s) w W := by
  have hf : failM c.z e s = ⟨[], e, x⟩ := by rw [failM, if_pos h0, hxe]
  rw [hf]
  refine ⟨h.turn (m := p) (p := p) hx (Nat.le_refl _) (by omega) ?_ (fun _ => rfl) (fun b _ hb => ho b hb) (by rw [hW]; exact h.hN), os, tp, out, by omega, fun b _ hb => ho b hb⟩
  exact List.drop_eq_nil_of_le (by rw [List.length_take]; omega)

theorem slice_all (T : TypeId) (hu : Tryz.prog.underlying T = some (.slice 197)) (a : Option Addr) (ha : a = none ∨ ∃ g o, a = some ⟨g, o, none⟩) (m cap p : Nat) (hp : p ≤ cap) (wx : World) :
    (Instr.slice T (.slice a m cap) none (some (.int .i64 (p : Int))) none).run Tryz.prog wx = .ok (.slice a p cap) wx := by
  have he : Tryz.prog.elem T = 197 := by simp [Program.elem, hu]
  have h1 := run_slice_h (P := Tryz.prog) (w := wx) T a m cap (by rw [he]; exact hu) .i64 (p : Int) (by omega) (by omega)
  refine h1.trans ?_
  rw [he]
  rcases ha with rfl | ⟨g, o, rfl⟩
  · simp [go_sem, sliced]
  · simp [go_sem, sliced, Addr.add]

end Go.Proofs.YtkahnlgedacppaaGreatDoor
/-
  The cursor: a fault.
-/
namespace Go.Proofs.YtkahnlgedacppaaGreatDoor
open Go.RowKit

theorem Pv.addr {c : Cx} {k : Nat} {s : Ms} {w : World} (h : Pv c k s w) : c.a = none ∨ ∃ g o, c.a = some ⟨g, o, none⟩ := by
  by_cases h0 : 0 < c.ts.length
  · obtain ⟨g, e, _⟩ := h.tk h0
    exact .inr ⟨g, 0, e⟩
  · rcases h.tn (by omega) with e | ⟨g, e⟩
    · exact .inl e
    · exact .inr ⟨g, 0, e⟩

/-- The cursor behind its first fault, as Fail leaves it: Left has been asked in between. -/
theorem Pv.fault {c : Cx} {k e : Nat} {s : Ms} {w w1 : World} (h : Pv c k s w) (h0 : s.er = 0) {m p : Nat} (hbk : w.heap[c.R]? = some (crCells c m p s.er s.wr)) (hm : m ≤ c.ts.length) (hp : p ≤ m)
    (hs : SameW ((w.setCell ⟨c.R, 3, none⟩ (.int .i64 (e : Int))).setCell ⟨c.R, 4, none⟩ (.int .i64 (c.z : Int))) w1) :
    w1.heap[c.R]? = some (crCells c m p e c.z) ∧ w1.heap.size = w.heap.size ∧ (∀ (g j : Nat), g ≠ c.R → w1.cell? ⟨g, j, none⟩ = w.cell? ⟨g, j, none⟩) ∧
    (s.l = [] → ∀ n, Pw c k (failM c.z e s) w ((w1.drewN n).setCell ⟨c.R, 0, none⟩ (.slice c.a p c.cap))) ∧ (∀ x : Nat, x = plM c.z s.l → ∀ n n2, Pw c k (failM c.z e s) w ((((w1.drewN n).setCell ⟨c.R, 4, none⟩ (.int .i64 (x : Int))).drewN n2).setCell ⟨c.R, 0, none⟩ (.slice c.a p c.cap))) := by
  have hk : w1.heap[c.R]? = some (crCells c m p e c.z) := by
    rw [hs.heap, Lib.heap_setCell_same (Lib.heap_setCell_same hbk _) _]; rfl
  have hz : w1.heap.size = w.heap.size := by rw [hs.heap]; simp [World.setCell]
  have ho : ∀ b, b ≠ c.R → w1.heap[b]? = w.heap[b]? := fun b hb => by
    rw [hs.heap, Below.heap_setCell _ _ _ _ hb, Below.heap_setCell _ _ _ _ hb]
  have hos : w1.os = w.os := hs.os
  have htp : w1.tape = w.tape := hs.tape
  have hout : w1.output = w.output := hs.output
  refine ⟨hk, hz, fun g j hg => World.cell?_of_block (a := ⟨g, j, none⟩) (ho g hg), fun hl n => ?_, fun x hx n n2 => ?_⟩
  · refine h.failed (e := e) (x := c.z) h0 hm hp ?_ (by rw [hl]; rfl) (fun b hb => ?_) ?_ hos htp hout
    · rw [Lib.heap_setCell_same (show (w1.drewN n).heap[c.R]? = _ from hk)]; rfl
    · rw [Below.heap_setCell _ _ _ _ hb]; exact ho b hb
    · rw [← hz]; simp [World.setCell, World.drewN]
  · refine h.failed (e := e) (x := x) h0 hm hp ?_ hx (fun b hb => ?_) ?_ hos htp hout
    · have h1 : (((w1.drewN n).setCell ⟨c.R, 4, none⟩ (.int .i64 (x : Int))).drewN n2).heap[c.R]? = some (crCells c m p e x) := by
        show ((w1.drewN n).setCell ⟨c.R, 4, none⟩ (.int .i64 (x : Int))).heap[c.R]? = _
        rw [Lib.heap_setCell_same (show (w1.drewN n).heap[c.R]? = _ from hk)]; rfl
      rw [Lib.heap_setCell_same h1]; rfl
    · rw [Below.heap_setCell _ _ _ _ hb]
      show ((w1.drewN n).setCell ⟨c.R, 4, none⟩ (.int .i64 (x : Int))).heap[b]? = _
      rw [Below.heap_setCell _ _ _ _ hb]; exact ho b hb
    · rw [← hz]; simp [World.setCell, World.drewN]

set_option maxHeartbeats 4000000 in
set_option maxRecDepth 100000 in
theorem pFail_any {c : Cx} {k : Nat} {s : Ms} (e : Nat) (w : World) (h : Pv c k s w) : Calls Tryz.prog 149 #[.pointer (some ⟨c.R, 0, none⟩), .int .i64 (e : Int)] w fun x w' => x = .returned (.tuple #[]) ∧ Pw c k (failM c.z e s) w w' := by
  obtain ⟨m, p, hbk, hp, hm, hl⟩ := h.bk
  have hRlt := h.lt
  have hx := h.tok hp hm hl
  have hc := h.hc
  have hs := h.hs
  have hpc : p ≤ c.cap := by omega
  by_cases he : s.er = 0
  · have HSL := slice_all 151 Tryz.underlying151 c.a h.addr m c.cap p hpc
    have hbk0 : ((w.setCell ⟨c.R, 3, none⟩ (.int .i64 (e : Int))).setCell ⟨c.R, 4, none⟩ (.int .i64 (c.z : Int))).heap[c.R]? = some (crCells c m p e c.z) := by
      rw [Lib.heap_setCell_same (Lib.heap_setCell_same hbk _) _]; rfl
    have HL := Pv.left hbk0 hp (by omega)
    have HFT := Lib.hid (fun w1 hs => h.fault (e := e) (w1 := w1) he hbk hm hp hs)
    have hgR : ∀ g, c.a = some ⟨g, 0, none⟩ → p < m → g ≠ c.R := fun g ha hlt => by
      obtain ⟨g', e', hgR, _⟩ := h.tk (by omega)
      rw [ha] at e'
      injection e' with e'
      injection e' with e' _ _
      rw [e']; exact hgR
    obtain ⟨-, c1, c2, c4, c5, fz, -⟩ := prCell hbk
    rw [he] at c4
    have hmc : m ≤ c.cap := by omega
    clear h hbk hbk0 hc
    go_enter Tryz.func149, Tryz.ntmps149
    go_wp2_with fail
    refine HL.mono ?_
    rintro x1 w1 ⟨rfl, hsm⟩
    obtain ⟨hk1, hz1, hot, F0, F1⟩ := HFT.out w1 hsm
    have HF0 := Lib.hid F0
    have HF1 := Lib.hid F1
    clear c1 c2 c4 c5 fz HFT hsm F0 F1 HL
    obtain ⟨c0, c1, c2, c4, c5, fz, hRl⟩ := prCell hk1
    clear hk1
    rcases hx with ⟨hpm, hst⟩ | ⟨hlt, t, g, ht, htl, -, ha, hg, hsz, g0, g1, g2⟩
    · have hd : decide (0 < ((m - p : Nat) : Int)) = false := decide_eq_false (by omega)
      have hd2 : decide (0 < m - p) = false := decide_eq_false (by omega)
      have hd3 : decide (p < m) = false := decide_eq_false (by omega)
      clear hl hm hp hs hpm hpc hot hgR
      go_upto_region 5 with fail
      go_region
      all_goals
        go_wp2_with fail
        go_end0
        exact ⟨rfl, HF0.out hst _⟩
    · have hd : decide (0 < ((m - p : Nat) : Int)) = true := decide_eq_true (by omega)
      have hd2 : decide (0 < m - p) = true := decide_eq_true (by omega)
      have hd3 : decide (p < m) = true := decide_eq_true hlt
      have hgr := hgR g ha hlt
      have g2 := (hot g (p * 3 + 2) hgr).trans g2
      have hg1 : g < w1.heap.size := by omega
      have hpl : t.at_ = plM c.z s.l := by rw [htl]; rfl
      have HPL := Lib.hid hpl
      have HAA := Lib.hid ha
      rw [ha] at c0 HSL
      clear hl hm hp hs hpc hot hgR htl ht g0 g1 hsz ha hpl
      go_upto_region 4 with fail
      go_region
      all_goals
        go_upto_region 5 with fail
        go_region
        all_goals
          go_wp2_with fail
          go_end0
          exact ⟨rfl, by have h := HF1.out t.at_ HPL.out; rw [HAA.out] at h; exact h _ _⟩
  · obtain ⟨-, -, -, c4, -, -, -⟩ := prCell hbk
    have hd : ((s.er : Int) != 0) = true := by simp; omega
    have HX := Lib.hid (show Pw c k (failM c.z e s) w w from by
      rw [failM, if_neg he]
      exact .of h (Below.refl _ _))
    clear h hbk hl hm hp hx hc hs hpc he
    go_enter Tryz.func149, Tryz.ntmps149
    go_wp2_with fail
    refine bodyPost_ret (v := .tuple #[]) (results_none rfl _ _ _) rfl ?_
    exact ⟨rfl, HX.out⟩

end Go.Proofs.YtkahnlgedacppaaGreatDoor
/-
  How long a value's text is that has been read out of tokens. No world: plain functions alone.
-/
namespace Go.Proofs.YtkahnlgedacppaaGreatDoor
open Go.RowKit

theorem vpts_len (f : JV → List UInt8) (ob : Bool) : ∀ (ps : List JV) (ns : List ByteArray) (fst : Bool), (vpts f ob fst ns ps).length ≤ (ps.map fun p => (f p).length + 4).sum + 6 * (ns.map fun n => n.size).sum
  | [], _, _ => Nat.zero_le _
  | p :: ps, ns, fst => by
    have h1 := vpts_len f ob ps ns.tail false
    have e4 : (if fst then ([] : List UInt8) else [32]).length ≤ 1 := by cases fst <;> decide
    have e5 : (if ob then vbl (ns.headD ⟨#[]⟩) ++ [58] else []).length ≤ 6 * (ns.headD ⟨#[]⟩).size + 3 := by
      cases ob
      · exact Nat.zero_le _
      · show (vbl _ ++ [58]).length ≤ _
        have h3 : (vbl (ns.headD ⟨#[]⟩)).length = (ns.headD ⟨#[]⟩).size := rfl
        rw [List.length_append, List.length_singleton]
        omega
    have e6 : (ns.map fun n => n.size).sum = (ns.headD ⟨#[]⟩).size + (ns.tail.map fun n => n.size).sum := by
      cases ns with
      | nil => rfl
      | cons a r => simp
    unfold vpts
    simp only [List.length_append, List.map_cons, List.sum_cons]
    omega
theorem leafT_len (x : JV) : (leafT x).length ≤ 6 * x.s.size + 4 := by
  have hs : (vbl x.s).length = x.s.size := rfl
  unfold leafT
  split
  · show 4 ≤ _; omega
  split
  · have := quoteIn_len (vbl x.s)
    unfold quoteB
    split
    · simp only [List.length_cons, List.length_append, List.length_nil]; omega
    · simp only [List.length_nil]; omega
  split
  · rw [List.length_cons]; omega
  · omega

/-- What a row of tokens weighs. -/
def ck1 (t : Sk) : Nat := 6 * t.2.length + 10
def cks (l : List Sk) : Nat := (l.map ck1).sum
theorem cks_tail (l : List Sk) (h : 0 < l.length) : cks l = ck1 (hdK l) + cks l.tail := by
  cases l with
  | nil => exact absurd h (Nat.lt_irrefl 0)
  | cons a r => simp [cks, hdK]
theorem cks_le (l : List Sk) : cks l.tail ≤ cks l := by
  cases l with
  | nil => exact Nat.le_refl _
  | cons a r => simp [cks]
theorem pos_of_k {l : List Sk} (h : (hdK l).1 ≠ 0) : 0 < l.length := by
  cases l with
  | nil => exact absurd rfl h
  | cons a r => exact Nat.succ_pos _
theorem vs_sgk {t : Sk} {c : UInt8} (h : sg t c = true) : t.1 ≠ 0 := by
  unfold sg at h
  simp only [Bool.and_eq_true, beq_iff_eq] at h
  omega
/-- So long a value is at most that was read out of l, r being left. -/
def Vl (q : VR) (l : List Sk) : Prop := q.2.2 = 0 → ∀ m, (vtxt m q.1).length + 4 + cks q.2.1 ≤ cks l
theorem vtxt_vx (k : Int) (s : List UInt8) (h7 : k ≠ 7) (h8 : k ≠ 8) (m : Nat) : (vtxt m (vx k s)).length ≤ 6 * s.length + 4 := by
  have h1 : vtxt m (vx k s) = leafT (vx k s) := by
    cases m with
    | zero =>
      unfold vtxt
      rw [if_neg]
      unfold compV vx JV.k
      simp [h7, h8]
    | succ m =>
      unfold vtxt
      rw [if_neg (show ¬ (vx k s).k = 7 from h7), if_neg (show ¬ (vx k s).k = 8 from h8)]
  rw [h1]
  exact leafT_len (vx k s)
theorem plainV_len {l : List Sk} (h : (plainV (hdK l)).k ≠ 0) : Vl (plainV (hdK l), l.tail, 0) l := fun _ m => by
  have hk : (hdK l).1 ≠ 0 := by
    intro e
    apply h
    unfold plainV
    rw [e]
    rfl
  have hl := cks_tail l (pos_of_k hk)
  have hx : (vtxt m (plainV (hdK l))).length ≤ 6 * (hdK l).2.length + 4 := by
    unfold plainV
    split
    · unfold wordV
      split
      · exact Nat.le_trans (vtxt_vx 1 [] (by decide) (by decide) m) (by simp)
      · split
        · exact vtxt_vx 2 _ (by decide) (by decide) m
        · split
          · exact vtxt_vx 2 _ (by decide) (by decide) m
          · exact vtxt_vx 6 _ (by decide) (by decide) m
    · split
      · exact vtxt_vx 3 _ (by decide) (by decide) m
      · split
        · exact vtxt_vx 4 _ (by decide) (by decide) m
        · split
          · exact vtxt_vx 5 _ (by decide) (by decide) m
          · cases m <;> simp [vtxt, vz, compV, JV.k, leafT, vbl, JV.s]
  unfold ck1 at hl
  show (vtxt m (plainV (hdK l))).length + 4 + cks l.tail ≤ cks l
  omega
theorem varV_len {l : List Sk} (h : sg (hdK l) 36 = true) : Vl (varV l.tail) l := fun h0 m => by
  have hl := cks_tail l (pos_of_k (vs_sgk h))
  unfold varV at *
  split at h0
  · rename_i h1
    rw [if_pos h1]
    have hl2 := cks_tail l.tail (pos_of_k (by omega))
    have := vtxt_vx 9 (hdK l.tail).2 (by decide) (by decide) m
    unfold ck1 at hl hl2
    show (vtxt m (vx 9 (hdK l.tail).2)).length + 4 + cks l.tail.tail ≤ cks l
    omega
  · exact absurd h0 (by first | exact (show ¬ (2 : Nat) = 0 by decide) | exact (show ¬ (4 : Nat) = 0 by decide))
theorem sum_snoc (f : JV → Nat) (xs : List JV) (x : JV) : ((xs ++ [x]).map f).sum = (xs.map f).sum + f x := by simp
theorem list_len (V : List Sk → VR) (hV : ∀ l, Vl (V l) l) : ∀ (n : Nat) (l : List Sk) (xs : List JV) (c : Nat), (∀ m, (xs.map fun p => (vtxt m p).length + 4).sum + cks l ≤ c) → (vListGo V n l xs).2.2 = 0 →
    ∀ m, (vtxt m (vListGo V n l xs).1).length + 4 + cks (vListGo V n l xs).2.1 ≤ c
  | 0, _, _, _, _, h0 => absurd h0 (by first | exact (show ¬ (2 : Nat) = 0 by decide) | exact (show ¬ (4 : Nat) = 0 by decide))
  | n + 1, l, xs, c, hc, h0 => by
    unfold vListGo at *
    split at h0
    · rename_i h1
      rw [if_pos h1]
      intro m
      have hl := cks_tail l (pos_of_k (vs_sgk h1))
      cases m with
      | zero =>
        have := hc 0
        have e : vtxt 0 (.mk 7 ⟨#[]⟩ [] xs) = [] := rfl
        rw [e]
        unfold ck1 at hl
        show 0 + 4 + cks l.tail ≤ c
        omega
      | succ m =>
        have := hc m
        have e : vtxt (m + 1) (.mk 7 ⟨#[]⟩ [] xs) = [91] ++ (vpts (vtxt m) false true [] xs ++ [93]) := rfl
        have h2 := vpts_len (vtxt m) false xs [] true
        rw [e]
        simp only [List.length_append, List.length_cons, List.length_nil, List.map_nil, List.sum_nil] at *
        unfold ck1 at hl
        show 0 + 1 + ((vpts (vtxt m) false true [] xs).length + (0 + 1)) + 4 + cks l.tail ≤ c
        omega
    · rename_i h1
      rw [if_neg h1]
      split at h0
      · rename_i h2
        rw [if_pos h2]
        refine list_len V hV n _ _ c (fun m => ?_) h0
        have h3 := hV l h2 m
        have h4 := hc m
        rw [sum_snoc]
        omega
      · rename_i h2
        exact absurd h0 h2
theorem obj_len (V : List Sk → VR) (hV : ∀ l, Vl (V l) l) : ∀ (n : Nat) (l : List Sk) (ns : List ByteArray) (xs : List JV) (c : Nat), (∀ m, (xs.map fun p => (vtxt m p).length + 4).sum + 6 * (ns.map fun n => n.size).sum + cks l ≤ c) → (vObjGo V n l ns xs).2.2 = 0 →
    ∀ m, (vtxt m (vObjGo V n l ns xs).1).length + 4 + cks (vObjGo V n l ns xs).2.1 ≤ c
  | 0, _, _, _, _, _, h0 => absurd h0 (by first | exact (show ¬ (2 : Nat) = 0 by decide) | exact (show ¬ (4 : Nat) = 0 by decide))
  | n + 1, l, ns, xs, c, hc, h0 => by
    unfold vObjGo at *
    split at h0
    · rename_i h1
      rw [if_pos h1]
      intro m
      have hl := cks_tail l (pos_of_k (vs_sgk h1))
      unfold ck1 at hl
      cases m with
      | zero =>
        have := hc 0
        have e : vtxt 0 (.mk 8 ⟨#[]⟩ ns xs) = [] := rfl
        rw [e]
        show 0 + 4 + cks l.tail ≤ c
        omega
      | succ m =>
        have := hc m
        have e : vtxt (m + 1) (.mk 8 ⟨#[]⟩ ns xs) = [123] ++ (vpts (vtxt m) true true ns xs ++ [125]) := rfl
        have h2 := vpts_len (vtxt m) true xs ns true
        rw [e]
        simp only [List.length_append, List.length_cons, List.length_nil]
        show 0 + 1 + ((vpts (vtxt m) true true ns xs).length + (0 + 1)) + 4 + cks l.tail ≤ c
        omega
    · rename_i h1
      rw [if_neg h1]
      split at h0
      · rename_i h2
        rw [if_pos h2]
        split at h0
        · rename_i h3
          rw [if_pos h3]
          split at h0
          · rename_i h4
            rw [if_pos h4]
            refine obj_len V hV n _ _ _ c (fun m => ?_) h0
            have h5 := hV _ h4 m
            have h6 := hc m
            have h7 := cks_tail l (pos_of_k (by omega))
            have h8 := cks_tail l.tail (pos_of_k (vs_sgk h3))
            have h9 : ((ns ++ [(⟨(hdK l).2.toArray⟩ : ByteArray)]).map fun n => n.size).sum = (ns.map fun n => n.size).sum + (hdK l).2.length := by
              simp only [List.map_append, List.map_cons, List.map_nil, List.sum_append, List.sum_cons, List.sum_nil]
              show _ + ((hdK l).2.toArray.size + 0) = _
              simp
            rw [sum_snoc, h9]
            unfold ck1 at h7 h8
            omega
          · rename_i h4
            exact absurd h0 h4
        · exact absurd h0 (by first | exact (show ¬ (2 : Nat) = 0 by decide) | exact (show ¬ (4 : Nat) = 0 by decide))
      · exact absurd h0 (by first | exact (show ¬ (2 : Nat) = 0 by decide) | exact (show ¬ (4 : Nat) = 0 by decide))
theorem pvT_len : ∀ (f : Nat) (l : List Sk), Vl (pvT f l) l
  | 0, l => by
    unfold pvT
    split
    · rename_i h; exact plainV_len h
    · split
      · rename_i h; exact varV_len h
      · split <;> exact fun h => absurd h (by first | exact (show ¬ (2 : Nat) = 0 by decide) | exact (show ¬ (4 : Nat) = 0 by decide))
  | f + 1, l => by
    unfold pvT
    split
    · rename_i h; exact plainV_len h
    · split
      · rename_i h; exact varV_len h
      · split
        · exact fun h0 => list_len _ (pvT_len f) _ _ _ _ (fun m => by simpa using cks_le l) h0
        · split
          · exact fun h0 => obj_len _ (pvT_len f) _ _ _ _ _ (fun m => by simpa using cks_le l) h0
          · exact fun h => absurd h (by first | exact (show ¬ (2 : Nat) = 0 by decide) | exact (show ¬ (4 : Nat) = 0 by decide))

/-- A value whose text is short. -/
def VS (x : JV) : Prop := ∀ m, (vtxt m x).length ≤ 100000000000
theorem vs_vz : VS vz := fun m => by
  have e : vtxt m vz = [] := by cases m <;> rfl
  rw [e]
  exact Nat.zero_le _
theorem pvT_small (f : Nat) (l : List Sk) (hl : l.length ≤ 10000) (hz : ∀ t ∈ l, t.2.length ≤ 1000000) (h : (pvT f l).2.2 = 0) : VS (pvT f l).1 := fun m => by
  have h1 := pvT_len f l h m
  have h2 : ∀ l : List Sk, (∀ t ∈ l, t.2.length ≤ 1000000) → cks l ≤ l.length * 6000010 := by
    intro l
    induction l with
    | nil => intro _; exact Nat.le_refl _
    | cons a r ih =>
      intro hz
      have h3 := ih (fun t ht => hz t (List.mem_cons_of_mem _ ht))
      have h4 := hz a (List.mem_cons_self ..)
      have e : cks (a :: r) = 6 * a.2.length + 10 + cks r := by simp [cks, ck1]
      rw [e, List.length_cons, Nat.succ_mul]
      omega
  have h3 := h2 l hz
  have h4 := Nat.mul_le_mul_right 6000010 hl
  omega

end Go.Proofs.YtkahnlgedacppaaGreatDoor
