/-
  doc's parser: a value without variables.
-/
import Derived.Test.YtibkncgfdhflgaaGreatDoorMDlg
import Derived.Deep.DeepCutAuto
namespace Go.Proofs.YtibkncgfdhflgaaGreatDoor
open Go.RowKit

theorem notVar_sg (t : Tk) : isSg [36] t = !notVar t := by unfold notVar; rw [Bool.not_not]

set_option maxHeartbeats 1000000 in
set_option maxRecDepth 100000 in
theorem begVar_any (t : Tk) (w : World) : Calls Tryz.prog 176 #[.agg #[.int .i64 t.k, .string ⟨t.s.toArray⟩, .int .i64 t.at_]] w fun e w' => e = .returned (.bool (isSg [36] t)) ∧ Below w.heap.size w w' := by
  have hb0 : Below w.heap.size w (w.alloc (.cells #[.int .i64 t.k, .string ⟨t.s.toArray⟩, .int .i64 t.at_] 83)) := (Below.refl _ w).alloc (Nat.le_refl _) _
  have HT := dSign_any t [36] (w.alloc (.cells #[.int .i64 t.k, .string ⟨t.s.toArray⟩, .int .i64 t.at_] 83))
  go_enter Tryz.func176, Tryz.ntmps176
  go_wp2_with fail
  refine HT.mono ?_
  rintro e w2 ⟨rfl, hb2⟩
  go_wp2_with fail
  go_ret
  exact ⟨rfl, hb0.trans (hb2.mono hb0.size)⟩

/-- The tokens that lie from ⟨g, off⟩ on. -/
def TokRow (w : World) (g off : Nat) (l : List Tk) : Prop := ∀ i t, l[i]? = some t → w.cell? ⟨g, off + i * 3, none⟩ = some (.int .i64 t.k) ∧ w.cell? ⟨g, off + i * 3 + 1, none⟩ = some (.string ⟨t.s.toArray⟩) ∧ w.cell? ⟨g, off + i * 3 + 2, none⟩ = some (.int .i64 t.at_)
theorem TokRow.below {w w' : World} {n g off : Nat} {l : List Tk} (h : TokRow w g off l) (hb : Below n w w') (hg : g < n) : TokRow w' g off l := fun i t ht => by
  have c : ∀ o, w'.cell? ⟨g, o, none⟩ = w.cell? ⟨g, o, none⟩ := fun o => World.cell?_of_block (a := ⟨g, o, none⟩) (hb.block g hg)
  obtain ⟨h0, h1, h2⟩ := h i t ht
  exact ⟨(c _).trans h0, (c _).trans h1, (c _).trans h2⟩
/-- Where the first variable begins. -/
def idxM (l : List Tk) : Int := if (l.takeWhile notVar).length < l.length then ((l.takeWhile notVar).length : Int) else -1
theorem tw_at {l : List Tk} {i : Nat} (h : i ≤ (l.takeWhile notVar).length) {t : Tk} (ht : l[i]? = some t) : (notVar t = true → i + 1 ≤ (l.takeWhile notVar).length) ∧ (notVar t = false → (l.takeWhile notVar).length = i) := by
  induction l generalizing i with
  | nil => simp at ht
  | cons a r ih =>
    cases ha : notVar a with
    | false =>
      have h0 : ((a :: r).takeWhile notVar).length = 0 := by rw [List.takeWhile_cons, if_neg (by rw [ha]; decide)]; rfl
      rw [h0] at h ⊢
      obtain rfl : i = 0 := by omega
      simp at ht
      subst ht
      exact ⟨fun e => absurd (ha.symm.trans e) (by decide), fun _ => rfl⟩
    | true =>
      have h0 : ((a :: r).takeWhile notVar).length = (r.takeWhile notVar).length + 1 := by rw [List.takeWhile_cons, if_pos ha]; rfl
      rw [h0] at h ⊢
      cases i with
      | zero =>
        simp at ht
        subst ht
        exact ⟨fun _ => by omega, fun e => absurd (ha.symm.trans e) (by decide)⟩
      | succ i =>
        have := ih (i := i) (by omega) (by simpa using ht)
        exact ⟨fun e => by have := this.1 e; omega, fun e => by have := this.2 e; omega⟩

set_option maxHeartbeats 2000000 in
set_option maxRecDepth 100000 in
theorem indexFunc_any {g off cp : Nat} {ra : Option Addr} (l : List Tk) (w : World) (hl : l.length ≤ 600) (hra : 0 < l.length → ra = some ⟨g, off, none⟩) (hg : 0 < l.length → g < w.heap.size) (hrow : TokRow w g off l) (hcp : l.length ≤ cp) :
    Calls Tryz.prog 175 #[.slice ra l.length cp, .func (.func 176) #[] #[]] w fun e w' => e = .returned (.int .i64 (idxM l)) ∧ Below w.heap.size w w' := by
  have HROW := Lib.hid hrow
  have HLE := Lib.hid (show (l.takeWhile notVar).length ≤ l.length from (List.takeWhile_prefix _).length_le)
  clear hrow
  go_enter Tryz.func175, Tryz.ntmps175
  go_wp2_with fail
  go_loopg [5, 8] l.length (fun j _ v8 wr => ∃ i : Nat, v8 = .int .i64 (i : Int) ∧ i ≤ l.length ∧ j = l.length - i ∧ i ≤ (l.takeWhile notVar).length ∧ Below w.heap.size w wr)
  case atStart => exact ⟨0, rfl, Nat.zero_le _, rfl, Nat.zero_le _, Below.refl _ _⟩
  case round =>
    obtain ⟨i, rfl, hi, hj, hit, hb⟩ := hrel
    have HB := Lib.hid hb
    have HIT := Lib.hid hit
    have hw : IntKind.i64.wrap ((i : Int) + 1) = (i : Int) + 1 := IntWalk.i64_in _ (by omega)
    by_cases hlt : i < l.length
    · have hd : decide ((i : Int) < (l.length : Int)) = true := decide_eq_true (by omega)
      have hd2 : decide (i < l.length) = true := decide_eq_true hlt
      have e1 := hra (by omega)
      subst e1
      have ht : l[i]? = some l[i] := List.getElem?_eq_getElem hlt
      obtain ⟨c0, c1, c2⟩ := (HROW.out.below hb (hg (by omega))) i _ ht
      have HT := begVar_any l[i] wr
      have HTW := Lib.hid (tw_at hit ht)
      generalize l[i] = t at *
      have hicp : i < cp := by omega
      cases hv : notVar t with
      | true =>
        rw [notVar_sg t, hv] at HT
        have HV := Lib.hid (HTW.out.1 hv)
        clear hit hb ht hv
        go_wp2_with fail
        refine HT.mono ?_
        rintro e w2 ⟨rfl, hb2⟩
        have HB2 := Lib.hid (HB.out.trans (hb2.mono HB.out.size))
        clear hb2
        go_wp2_with fail
        go_roundg (l.length - (i + 1))
        case measure => omega
        case rel => exact ⟨i + 1, by simp, by omega, rfl, HV.out, HB2.out⟩
      | false =>
        rw [notVar_sg t, hv] at HT
        have HI := Lib.hid (show idxM l = (i : Int) by
          have := HTW.out.2 hv
          unfold idxM
          rw [if_pos (by omega), this])
        clear hit hb ht hv
        go_wp2_with fail
        refine HT.mono ?_
        rintro e w2 ⟨rfl, hb2⟩
        have HB2 := Lib.hid (HB.out.trans (hb2.mono HB.out.size))
        clear hb2
        go_wp2_with fail
        go_ret
        exact ⟨by rw [HI.out]; rfl, HB2.out⟩
    · have hd : decide ((i : Int) < (l.length : Int)) = false := decide_eq_false (by omega)
      have hd2 : decide (i < l.length) = false := decide_eq_false hlt
      have HI := Lib.hid (show idxM l = -1 by unfold idxM; rw [if_neg (by have := HLE.out; omega)])
      clear hit hb
      go_wp2_with fail
      go_ret
      exact ⟨by rw [HI.out]; rfl, HB.out⟩

end Go.Proofs.YtibkncgfdhflgaaGreatDoor

/-
  doc's parser: a constant.
-/
namespace Go.Proofs.YtibkncgfdhflgaaGreatDoor
open Go.RowKit

theorem tw_take (l : List Tk) : l.takeWhile notVar = l.take (l.takeWhile notVar).length := (List.prefix_iff_eq_take.1 (List.takeWhile_prefix _))

theorem take_drop_take (ts : List Tk) {m p n : Nat} (h : n ≤ m - p) : (ts.take (p + n)).drop p = ((ts.take m).drop p).take n := by
  rw [List.drop_take, List.drop_take, List.take_take, show p + n - p = n by omega, Nat.min_eq_left h]

theorem slice_from (T : TypeId) (hu : Tryz.prog.underlying T = some (.slice 83)) (a : Option Addr) (m cap p : Nat) (hp : p ≤ m) (wx : World) :
    (Instr.slice T (.slice a m cap) (some (.int .i64 (p : Int))) none none).run Tryz.prog wx = .ok (.slice (if cap = p then a else a.map (·.add (p * 3))) (m - p) (cap - p)) wx := by
  have he : Tryz.prog.elem T = 83 := by simp [Program.elem, hu]
  have h1 := run_slice_l (P := Tryz.prog) (w := wx) T a m cap (by rw [he]; exact hu) .i64 (p : Int) (by omega) (by omega)
  refine h1.trans ?_
  rw [he]
  simp [go_sem, sliced]

/-- What is ahead lies in a row. -/
theorem Pv.rest {c : Cx} {k : Nat} {s : Ms} {w : World} (h : Pv c k s w) {m p : Nat} (hp : p ≤ m) (hm : m ≤ c.ts.length) (hl : (c.ts.take m).drop p = s.l) :
    ∃ g, (0 < s.l.length → (if c.cap = p then c.a else c.a.map (·.add (p * 3))) = some ⟨g, p * 3, none⟩ ∧ g < c.N) ∧ TokRow w g (p * 3) s.l := by
  have hlen : s.l.length = m - p := by rw [← hl, take_drop_len hm]
  by_cases h0 : 0 < s.l.length
  · obtain ⟨g, e, _, hg, hc⟩ := h.tk (by omega)
    refine ⟨g, fun _ => ⟨?_, hg⟩, fun i t ht => ?_⟩
    · have := h.hc
      rw [if_neg (by omega), e]
      simp [Addr.add]
      try omega
    · have hi := (List.getElem?_eq_some_iff.1 ht).1
      have e1 : c.ts[p + i]? = some t := by
        rw [← hl, List.getElem?_drop, List.getElem?_take] at ht
        rw [if_pos (by omega)] at ht
        exact ht
      obtain ⟨k0, k1, k2⟩ := tkCells_at c.ts (p + i) t e1
      rw [show p * 3 + i * 3 = (p + i) * 3 by omega]
      exact ⟨hc _ _ k0, hc _ _ k1, hc _ _ k2⟩
  · refine ⟨0, fun h => absurd h h0, fun i t ht => ?_⟩
    have := (List.getElem?_eq_some_iff.1 ht).1
    omega

theorem box_four {c : Cx} {k : Nat} {s0 s : Ms} {w W w1 : World} (h : Pv c k s0 w) (hW : Pw c k s0 w W) (hbx : W.heap[w.heap.size]? = some vzB) {r : JV} {kk : Int} {ss : ByteArray} {an ap : Option Addr} {ln cn lp cp : Nat} (hp : Pw c k s W w1) (hR : RdD w1 (fun b => W.heap.size ≤ b ∧ b < w1.heap.size) 13 r (.agg #[.int .i64 kk, .string ss, .slice an ln cn, .slice ap lp cp])) :
    Bx w1 w.heap.size ∧ ValueAns c k w (r, s) (.returned (.agg #[.int .i64 kk, .string ss, .slice an ln cn, .slice ap lp cp])) ((((w1.setCell ⟨w.heap.size, 0, none⟩ (.int .i64 kk)).setCell ⟨w.heap.size, 1, none⟩ (.string ss)).setCell ⟨w.heap.size, 2, none⟩ (.slice an ln cn)).setCell ⟨w.heap.size, 3, none⟩ (.slice ap lp cp)) := by
  have hlt := (Array.getElem?_eq_some_iff.1 hbx).1
  have hN := h.hN
  have hRN := h.hR
  have hb : w1.heap[w.heap.size]? = some vzB := (hp.2.block _ hlt (by omega)).trans hbx
  refine ⟨⟨Lib.cell_of_heap hb 0, Lib.cell_of_heap hb 1, Lib.cell_of_heap hb 2, Lib.cell_of_heap hb 3, fun j => by simp [World.frozen?, hb, vzB]⟩, _, _, _, _, _, _, _, _, rfl, ?_, (hW.trans hp).four h.hN _ _ _ _⟩
  exact RdD.step (fun b hd => ⟨by omega, by rw [size_four]; exact hd.2⟩) (fun b o hd => World.cell?_of_block (a := ⟨b, o, none⟩) (heap_four _ _ _ _ _ _ b (by omega))) hR

set_option maxHeartbeats 8000000 in
set_option maxRecDepth 100000 in
theorem pConst_any {c : Cx} {k : Nat} {s : Ms} (w : World) (h : Pv c k s w) : Calls Tryz.prog 160 #[.pointer (some ⟨c.R, 0, none⟩)] w (ValueAns c k w (coM c.z s)) := by
  have hA := h.alloc vzB
  obtain ⟨m, p, hbk, hp, hm, hl⟩ := hA.bk
  obtain ⟨c0, c1, -, -, -, -, -⟩ := prCell hbk
  obtain ⟨g, hra, hrow⟩ := hA.rest hp hm hl
  have hlen : s.l.length = m - p := by rw [← hl, take_drop_len hm]
  have hs6 := h.hs
  have hcap := h.hc
  have HSL := slice_from 62 Tryz.underlying62 c.a m c.cap p hp
  have HIX := fun W (hb : Below (w.alloc vzB).heap.size (w.alloc vzB) W) => indexFunc_any (cp := c.cap - p) s.l W (by omega) (fun h0 => (hra h0).1) (fun h0 => by have := (hra h0).2; have := hA.hN; have := hb.size; omega) (by
    by_cases h0 : 0 < s.l.length
    · exact hrow.below hb (by have := (hra h0).2; have := hA.hN; omega)
    · intro i t ht
      have := (List.getElem?_eq_some_iff.1 ht).1
      omega) (by omega)
  rw [hlen] at HIX
  have hq : (s.l.takeWhile notVar).length ≤ s.l.length := (List.takeWhile_prefix _).length_le
  have HQ : (c.ts.take (p + (s.l.takeWhile notVar).length)).drop p = s.l.takeWhile notVar := by
    rw [take_drop_take c.ts (m := m) (by omega), hl]
    exact (tw_take s.l).symm
  have HM := Lib.hid (show coM c.z s = vaM c.z ((c.ts.take (p + (s.l.takeWhile notVar).length)).drop p) s by rw [HQ]; rfl)
  have HI := Lib.hid (show idxM s.l = if (s.l.takeWhile notVar).length < m - p then (((s.l.takeWhile notVar).length : Nat) : Int) else -1 by unfold idxM; rw [hlen])
  rw [hlen] at hq
  generalize (s.l.takeWhile notVar).length = n at *
  generalize idxM s.l = ix at *
  have hHH := Lib.hid h
  have HAA := Lib.hid hA
  have HBK := Lib.hid hbk
  have HPM := Lib.hid (And.intro hp (And.intro hm hl))
  have HSA := slice_all 62 Tryz.underlying62 c.a hA.addr m c.cap (p + n) (by omega)
  rw [show ((p + n : Nat) : Int) = (p : Int) + (n : Int) by omega] at HSA
  have hwr : IntKind.i64.wrap ((p : Int) + (n : Int)) = (p : Int) + (n : Int) := IntWalk.i64_in _ (by omega)
  have HBX := Lib.hid (show (w.alloc vzB).heap[w.heap.size]? = some vzB from heap_alloc_new w vzB)
  have hs0 : (w.alloc vzB).heap.size = w.heap.size + 1 := by simp
  have hpn : p + n ≤ c.cap := by omega
  have HIH := Lib.hid HIX
  have hRlt := h.lt
  clear hA hbk hp hl hrow hra hlen HQ h HIX
  generalize (if c.cap = p then c.a else c.a.map (·.add (p * 3))) = ra at *
  unfold vzB at c0 c1 HIH
  go_enter Tryz.func160, Tryz.ntmps160
  go_upto_region 1 with fail
  go_quiet (fail)
  rename_i nq
  have hbq : Below (w.alloc vzB).heap.size (w.alloc vzB) ((w.alloc vzB).drewN nq) := below_drewN (Below.refl _ _) _
  unfold vzB at hbq
  have HT := HIH.out _ hbq
  clear c0 c1 HSL
  go_wp2_with fail
  refine HT.mono ?_
  rintro e w2 ⟨rfl, hb2⟩
  have hb3 := hbq.trans (hb2.mono hbq.size)
  have HB3 := Lib.hid hb3
  clear HT hb2 hbq
  go_upto_if 17 with fail
  go_cut [4] (fun v4 wc => v4 = .int .i64 (n : Int) ∧ w2 = wc)
  case first =>
    by_cases hn : n < m - p
    · have e1 : ix = (n : Int) := by rw [HI.out, if_pos hn]
      subst e1
      have hd : decide ((n : Int) < 0) = false := decide_eq_false (by omega)
      clear hb3
      go_wp2_with fail
      go_meet
      case rel => exact ⟨rfl, rfl⟩
    · have e1 : ix = -1 := by rw [HI.out, if_neg hn]
      subst e1
      have e2 : m - p = n := by omega
      have E2 := Lib.hid (show Value.int .i64 ((m - p : Nat) : Int) = .int .i64 (n : Int) by rw [e2])
      clear e2
      clear hb3
      go_wp2_with fail
      go_meet
      case rel => exact ⟨E2.out, rfl⟩
  case rest =>
    obtain ⟨rfl, rfl⟩ := hcut
    have hb4 := HB3.out
    have hA2 : Pv c k s w2 := HAA.out.below hb4 (by have := HAA.out.hN; unfold vzB at this; exact this)
    have hbk2 : w2.heap[c.R]? = some (prCells c k m p s.er s.wr) := (hb4.block _ (by have := HAA.out.lt; unfold vzB at this; exact this)).trans HBK.out
    obtain ⟨c0, c1, -, -, -, -, -⟩ := prCell hbk2
    have HAM := pAmong_any w2.drew hA2.drew hbk2 (q := p + n) (by omega) (by have := HPM.out.1; omega) HPM.out.2.1 HPM.out.2.2
    have hbw : Pw c k s w w2.drew := by
      have h1 := (Pw.refl hHH.out).below (((Below.refl _ w).alloc (Nat.le_refl _) vzB).trans ((show Below (w.alloc vzB).heap.size (w.alloc vzB) w2.drew from hb4.drew).mono (by simp)))
      exact h1
    have hbx2 : w2.drew.heap[w.heap.size]? = some vzB := (hb4.block _ (by have := hs0; unfold vzB at this; omega)).trans HBX.out
    have HW := Lib.hid hbw
    have HX2 := Lib.hid hbx2
    generalize vaM c.z ((c.ts.take (p + n)).drop p) s = RV at *
    obtain ⟨r, s5⟩ := RV
    clear hA2 hbk2 hb3 hb4 hbw hbx2 HB3
    go_upto_region 5 with fail
    go_region_with ((go_at_call 177); (with_reducible refine HAM.mono ?_); rintro e w5 ⟨kk, ss, an, ln, cn, ap, lp, cp, rfl, hR, p5⟩; obtain ⟨⟨r0, r1, r2, r3, rf⟩, hX⟩ := box_four hHH.out HW.out HX2.out p5 hR; have HX := Lib.hid hX; have HF2 := Lib.hid (bx_four (⟨r0, r1, r2, r3, rf⟩ : Bx w5 w.heap.size) (.int .i64 kk) (.string ss) (.slice an ln cn) (.slice ap lp cp)); clear hX hR p5)
    all_goals
      go_wp2_with fail
      obtain ⟨k0, k1, k2, k3⟩ := HF2.out
      refine bodyPost_ret (v := .agg #[.int .i64 kk, .string ss, .slice an ln cn, .slice ap lp cp]) (by simp [results, Tryz.results160, go_sem, k0, k1, k2, k3]) rfl ?_
      rw [HM.out]
      exact HX.out

end Go.Proofs.YtibkncgfdhflgaaGreatDoor
