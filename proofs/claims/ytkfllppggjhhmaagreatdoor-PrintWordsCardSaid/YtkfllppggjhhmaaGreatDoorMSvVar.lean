/-
  doc's parser: a constant.
-/
import Derived.Test.YtkfllppggjhhmaaGreatDoorMDc
import Derived.Test.YtkfllppggjhhmaaGreatDoorMDv
import Derived.Deep.DeepCutAuto
import Derived.Test.YtkfllppggjhhmaaGreatDoorMDa
namespace Go.Proofs.YtkfllppggjhhmaaGreatDoor
open Go.RowKit

theorem tw_take (l : List Tk) : l.takeWhile notVar = l.take (l.takeWhile notVar).length := (List.prefix_iff_eq_take.1 (List.takeWhile_prefix _))

theorem take_drop_take (ts : List Tk) {m p n : Nat} (h : n ≤ m - p) : (ts.take (p + n)).drop p = ((ts.take m).drop p).take n := by
  rw [List.drop_take, List.drop_take, List.take_take, show p + n - p = n by omega, Nat.min_eq_left h]

theorem slice_from (T : TypeId) (hu : Tryz.prog.underlying T = some (.slice 150)) (a : Option Addr) (m cap p : Nat) (hp : p ≤ m) (wx : World) :
    (Instr.slice T (.slice a m cap) (some (.int .i64 (p : Int))) none none).run Tryz.prog wx = .ok (.slice (if cap = p then a else a.map (·.add (p * 3))) (m - p) (cap - p)) wx := by
  have he : Tryz.prog.elem T = 150 := by simp [Program.elem, hu]
  have h1 := run_slice_l (P := Tryz.prog) (w := wx) T a m cap (by rw [he]; exact hu) .i64 (p : Int) (by omega) (by omega)
  refine h1.trans ?_
  rw [he]
  simp [go_sem, sliced]

/-- What is ahead lies in a row. -/
theorem Pv.rest {c : Cx} {k : Nat} {s : Ms} {w : World} (h : Pv c k s w) {m p : Nat} (hp : p ≤ m) (hm : m ≤ c.ts.length) (hl : (c.ts.take m).drop p = s.l) :
    ∃ g, (0 < s.l.length → (if c.cap = p then c.a else c.a.map (·.add (p * 3))) = some ⟨g, p * 3, none⟩ ∧ g < c.N) ∧ TokRow w g (p * 3) s.l := by
  have hlen : s.l.length = m - p := by rw [← hl, take_drop_len hm]
  by_cases h0 : 0 < s.l.length
  · obtain ⟨g, e, _, hg, hc⟩ := h.tk (by omega)
    refine ⟨g, fun _ => ⟨?_, hg⟩, fun i t ht => ?_⟩
    · have := h.hc
      rw [if_neg (by omega), e]
      simp [Addr.add]
      try omega
    · have hi := (List.getElem?_eq_some_iff.1 ht).1
      have e1 : c.ts[p + i]? = some t := by
        rw [← hl, List.getElem?_drop, List.getElem?_take] at ht
        rw [if_pos (by omega)] at ht
        exact ht
      obtain ⟨k0, k1, k2⟩ := tkCells_at c.ts (p + i) t e1
      rw [show p * 3 + i * 3 = (p + i) * 3 by omega]
      exact ⟨hc _ _ k0, hc _ _ k1, hc _ _ k2⟩
  · refine ⟨0, fun h => absurd h h0, fun i t ht => ?_⟩
    have := (List.getElem?_eq_some_iff.1 ht).1
    omega

theorem box_four {c : Cx} {k : Nat} {s0 s : Ms} {w W w1 : World} (h : Pv c k s0 w) (hW : Pw c k s0 w W) (hbx : W.heap[w.heap.size]? = some vzB) {r : JV} {kk : Int} {ss : ByteArray} {an ap : Option Addr} {ln cn lp cp : Nat} (hp : Pw c k s W w1) (hR : RdD w1 (fun b => W.heap.size ≤ b ∧ b < w1.heap.size) 13 r (.agg #[.int .i64 kk, .string ss, .slice an ln cn, .slice ap lp cp])) :
    Bx w1 w.heap.size ∧ ValueAns c k w (r, s) (.returned (.agg #[.int .i64 kk, .string ss, .slice an ln cn, .slice ap lp cp])) ((((w1.setCell ⟨w.heap.size, 0, none⟩ (.int .i64 kk)).setCell ⟨w.heap.size, 1, none⟩ (.string ss)).setCell ⟨w.heap.size, 2, none⟩ (.slice an ln cn)).setCell ⟨w.heap.size, 3, none⟩ (.slice ap lp cp)) := by
  have hlt := (Array.getElem?_eq_some_iff.1 hbx).1
  have hN := h.hN
  have hRN := h.hR
  have hb : w1.heap[w.heap.size]? = some vzB := (hp.2.block _ hlt (by omega)).trans hbx
  refine ⟨⟨Lib.cell_of_heap hb 0, Lib.cell_of_heap hb 1, Lib.cell_of_heap hb 2, Lib.cell_of_heap hb 3, fun j => by simp [World.frozen?, hb, vzB]⟩, _, _, _, _, _, _, _, _, rfl, ?_, (hW.trans hp).four h.hN _ _ _ _⟩
  exact RdD.step (fun b hd => ⟨by omega, by rw [size_four]; exact hd.2⟩) (fun b o hd => World.cell?_of_block (a := ⟨b, o, none⟩) (heap_four _ _ _ _ _ _ b (by omega))) hR

set_option maxHeartbeats 8000000 in
set_option maxRecDepth 100000 in
theorem pConst_any {c : Cx} {k : Nat} {s : Ms} (w : World) (h : Pv c k s w) : Calls Tryz.prog 283 #[.pointer (some ⟨c.R, 0, none⟩)] w (ValueAns c k w (coM c.z s)) := by
  have hA := h.alloc vzB
  obtain ⟨m, p, hbk, hp, hm, hl⟩ := hA.bk
  obtain ⟨c0, c1, -, -, -, -, -⟩ := prCell hbk
  obtain ⟨g, hra, hrow⟩ := hA.rest hp hm hl
  have hlen : s.l.length = m - p := by rw [← hl, take_drop_len hm]
  have hs6 := h.hs
  have hcap := h.hc
  have HSL := slice_from 88 Tryz.underlying88 c.a m c.cap p hp
  have HIX := fun W (hb : Below (w.alloc vzB).heap.size (w.alloc vzB) W) => indexFunc_any (cp := c.cap - p) s.l W (by omega) (fun h0 => (hra h0).1) (fun h0 => by have := (hra h0).2; have := hA.hN; have := hb.size; omega) (by
    by_cases h0 : 0 < s.l.length
    · exact hrow.below hb (by have := (hra h0).2; have := hA.hN; omega)
    · intro i t ht
      have := (List.getElem?_eq_some_iff.1 ht).1
      omega) (by omega)
  rw [hlen] at HIX
  have hq : (s.l.takeWhile notVar).length ≤ s.l.length := (List.takeWhile_prefix _).length_le
  have HQ : (c.ts.take (p + (s.l.takeWhile notVar).length)).drop p = s.l.takeWhile notVar := by
    rw [take_drop_take c.ts (m := m) (by omega), hl]
    exact (tw_take s.l).symm
  have HM := Lib.hid (show coM c.z s = vaM c.z ((c.ts.take (p + (s.l.takeWhile notVar).length)).drop p) s by rw [HQ]; rfl)
  have HI := Lib.hid (show idxM s.l = if (s.l.takeWhile notVar).length < m - p then (((s.l.takeWhile notVar).length : Nat) : Int) else -1 by unfold idxM; rw [hlen])
  rw [hlen] at hq
  generalize (s.l.takeWhile notVar).length = n at *
  generalize idxM s.l = ix at *
  have hHH := Lib.hid h
  have HAA := Lib.hid hA
  have HBK := Lib.hid hbk
  have HPM := Lib.hid (And.intro hp (And.intro hm hl))
  have HSA := slice_all 88 Tryz.underlying88 c.a hA.addr m c.cap (p + n) (by omega)
  rw [show ((p + n : Nat) : Int) = (p : Int) + (n : Int) by omega] at HSA
  have hwr : IntKind.i64.wrap ((p : Int) + (n : Int)) = (p : Int) + (n : Int) := IntWalk.i64_in _ (by omega)
  have HBX := Lib.hid (show (w.alloc vzB).heap[w.heap.size]? = some vzB from heap_alloc_new w vzB)
  have hs0 : (w.alloc vzB).heap.size = w.heap.size + 1 := by simp
  have hpn : p + n ≤ c.cap := by omega
  have HIH := Lib.hid HIX
  have hRlt := h.lt
  clear hA hbk hp hl hrow hra hlen HQ h HIX
  generalize (if c.cap = p then c.a else c.a.map (·.add (p * 3))) = ra at *
  unfold vzB at c0 c1 HIH
  go_enter Tryz.func283, Tryz.ntmps283
  go_upto_region 1 with fail
  go_quiet (fail)
  rename_i nq
  have hbq : Below (w.alloc vzB).heap.size (w.alloc vzB) ((w.alloc vzB).drewN nq) := below_drewN (Below.refl _ _) _
  unfold vzB at hbq
  have HT := HIH.out _ hbq
  clear c0 c1 HSL
  go_wp2_with fail
  refine HT.mono ?_
  rintro e w2 ⟨rfl, hb2⟩
  have hb3 := hbq.trans (hb2.mono hbq.size)
  have HB3 := Lib.hid hb3
  clear HT hb2 hbq
  go_upto_if 17 with fail
  go_cut [4] (fun v4 wc => v4 = .int .i64 (n : Int) ∧ w2 = wc)
  case first =>
    by_cases hn : n < m - p
    · have e1 : ix = (n : Int) := by rw [HI.out, if_pos hn]
      subst e1
      have hd : decide ((n : Int) < 0) = false := decide_eq_false (by omega)
      clear hb3
      go_wp2_with fail
      go_meet
      case rel => exact ⟨rfl, rfl⟩
    · have e1 : ix = -1 := by rw [HI.out, if_neg hn]
      subst e1
      have e2 : m - p = n := by omega
      have E2 := Lib.hid (show Value.int .i64 ((m - p : Nat) : Int) = .int .i64 (n : Int) by rw [e2])
      clear e2
      clear hb3
      go_wp2_with fail
      go_meet
      case rel => exact ⟨E2.out, rfl⟩
  case rest =>
    obtain ⟨rfl, rfl⟩ := hcut
    have hb4 := HB3.out
    have hA2 : Pv c k s w2 := HAA.out.below hb4 (by have := HAA.out.hN; unfold vzB at this; exact this)
    have hbk2 : w2.heap[c.R]? = some (prCells c k m p s.er s.wr) := (hb4.block _ (by have := HAA.out.lt; unfold vzB at this; exact this)).trans HBK.out
    obtain ⟨c0, c1, -, -, -, -, -⟩ := prCell hbk2
    have HAM := pAmong_any w2.drew hA2.drew hbk2 (q := p + n) (by omega) (by have := HPM.out.1; omega) HPM.out.2.1 HPM.out.2.2
    have hbw : Pw c k s w w2.drew := by
      have h1 := (Pw.refl hHH.out).below (((Below.refl _ w).alloc (Nat.le_refl _) vzB).trans ((show Below (w.alloc vzB).heap.size (w.alloc vzB) w2.drew from hb4.drew).mono (by simp)))
      exact h1
    have hbx2 : w2.drew.heap[w.heap.size]? = some vzB := (hb4.block _ (by have := hs0; unfold vzB at this; omega)).trans HBX.out
    have HW := Lib.hid hbw
    have HX2 := Lib.hid hbx2
    generalize vaM c.z ((c.ts.take (p + n)).drop p) s = RV at *
    obtain ⟨r, s5⟩ := RV
    clear hA2 hbk2 hb3 hb4 hbw hbx2 HB3
    go_upto_region 5 with fail
    go_region_with ((go_at_call 307); (with_reducible refine HAM.mono ?_); rintro e w5 ⟨kk, ss, an, ln, cn, ap, lp, cp, rfl, hR, p5⟩; obtain ⟨⟨r0, r1, r2, r3, rf⟩, hX⟩ := box_four hHH.out HW.out HX2.out p5 hR; have HX := Lib.hid hX; have HF2 := Lib.hid (bx_four (⟨r0, r1, r2, r3, rf⟩ : Bx w5 w.heap.size) (.int .i64 kk) (.string ss) (.slice an ln cn) (.slice ap lp cp)); clear hX hR p5)
    all_goals
      go_wp2_with fail
      obtain ⟨k0, k1, k2, k3⟩ := HF2.out
      refine bodyPost_ret (v := .agg #[.int .i64 kk, .string ss, .slice an ln cn, .slice ap lp cp]) (by simp [results, Tryz.results283, go_sem, k0, k1, k2, k3]) rfl ?_
      rw [HM.out]
      exact HX.out

end Go.Proofs.YtkfllppggjhhmaaGreatDoor
/-
  doc's parser: a type.
-/
namespace Go.Proofs.YtkfllppggjhhmaaGreatDoor
open Go.RowKit

def tyB : Obj := .cells #[.string ⟨#[]⟩, .string ⟨#[]⟩] 57
/-- The two orders in which the box of the type may be laid. -/
theorem type_a {w w1 : World} (hb : Below (w.alloc tyB).drew.heap.size (w.alloc tyB).drew w1) : Below w.heap.size w w1 ∧ w.heap.size + 1 ≤ w1.heap.size ∧ w1.heap[w.heap.size]? = some tyB := by
  have h1 : Below w.heap.size w (w.alloc tyB).drew := ((Below.refl _ w).alloc (Nat.le_refl _) _).drew
  have hs : (w.alloc tyB).drew.heap.size = w.heap.size + 1 := by show (w.alloc tyB).heap.size = _; simp
  have h0 : w1.heap[w.heap.size]? = some tyB := by
    rw [hb.block _ (by rw [hs]; omega)]
    exact heap_alloc_new w tyB
  exact ⟨h1.trans (hb.mono h1.size), by have := hb.size; omega, h0⟩
theorem type_b {w w1 : World} (hb : Below ((w.alloc tyB).alloc tyB).drew.heap.size ((w.alloc tyB).alloc tyB).drew w1) : (Below w.heap.size w w1 ∧ w.heap.size + 2 ≤ w1.heap.size ∧ w1.heap[w.heap.size]? = some tyB) ∧ (w1.cell? ⟨w.heap.size + 1, 0, none⟩ = some (.string ⟨#[]⟩) ∧ w1.cell? ⟨w.heap.size + 1, 1, none⟩ = some (.string ⟨#[]⟩)) ∧ (∀ j, w1.frozen? ⟨w.heap.size + 1, j, none⟩ = false) ∧ w1.heap[w.heap.size + 1]? = some tyB := by
  have h1 : Below w.heap.size w ((w.alloc tyB).alloc tyB).drew := (((Below.refl _ w).alloc (Nat.le_refl _) _).alloc (by simp) _).drew
  have hs : ((w.alloc tyB).alloc tyB).drew.heap.size = w.heap.size + 2 := by show ((w.alloc tyB).alloc tyB).heap.size = _; simp
  have hk : w1.heap[w.heap.size + 1]? = some tyB := by
    rw [hb.block _ (by rw [hs]; omega)]
    show ((w.alloc tyB).alloc tyB).heap[w.heap.size + 1]? = some tyB
    have := heap_alloc_new (w.alloc tyB) tyB
    rwa [show (w.alloc tyB).heap.size = w.heap.size + 1 by simp] at this
  have h0 : w1.heap[w.heap.size]? = some tyB := by
    rw [hb.block _ (by rw [hs]; omega)]
    show ((w.alloc tyB).alloc tyB).heap[w.heap.size]? = some tyB
    rw [Below.heap_alloc _ _ _ (by simp)]
    exact heap_alloc_new w tyB
  exact ⟨⟨h1.trans (hb.mono h1.size), by have := hb.size; omega, h0⟩, ⟨Lib.cell_of_heap hk 0, Lib.cell_of_heap hk 1⟩, fun j => by simp [World.frozen?, hk, tyB], hk⟩
theorem aw_blk {R n g : Nat} {a b : World} {o : Obj} (h : Aw R n a b) (hg : g < n) (hr : g ≠ R) (ho : a.heap[g]? = some o) : b.heap[g]? = some o := (h.block g hg hr).trans ho
theorem Pv.all {c : Cx} {k : Nat} {s : Ms} {w : World} (h : Pv c k s w) : ∀ W, Below w.heap.size w W → Pv c k s W := fun _ hb => h.below hb h.hN
theorem bel_set2 {w w1 : World} {b i j : Nat} (h : Below w.heap.size w w1) (hb : w.heap.size ≤ b) (u v : Value) : Below w.heap.size w ((w1.setCell ⟨b, i, none⟩ u).setCell ⟨b, j, none⟩ v) := (h.setCell (p := ⟨b, i, none⟩) hb u).setCell (p := ⟨b, j, none⟩) hb v

theorem two_set {W : World} {g : Nat} (h : W.heap[g]? = some tyB) (c0 c1 : Value) : ((W.setCell ⟨g, 0, none⟩ c0).setCell ⟨g, 1, none⟩ c1).heap[g]? = some (.cells #[c0, c1] 57 (0, 0)) := by
  rw [Lib.heap_setCell_same (Lib.heap_setCell_same h c0) c1]; rfl

/-- Behind the call of Type: the box of the type, the place, whether there is one. -/
def TyCut (w : World) (nm ws : ByteArray) (q : Nat) (ok : Bool) (v3 v4 v5 : Value) (wc : World) : Prop :=
  ∃ B, v3 = .pointer (some ⟨B, 0, none⟩) ∧ v4 = .int .i64 (q : Int) ∧ v5 = .bool ok ∧ w.heap.size + 1 ≤ B ∧ wc.heap[B]? = some (.cells #[.string nm, .string ws] 57 (0, 0)) ∧ wc.heap[w.heap.size]? = some tyB ∧ Below w.heap.size w wc
theorem tyCut_a {w w1 : World} (nm ws : ByteArray) (q : Nat) (ok : Bool) (h : Below w.heap.size w w1 ∧ w.heap.size + 1 ≤ w1.heap.size ∧ w1.heap[w.heap.size]? = some tyB) :
    TyCut w nm ws q ok (.pointer (some ⟨w1.heap.size, 0, none⟩)) (.int .i64 (q : Int)) (.bool ok) (w1.alloc (.cells #[.string nm, .string ws] 57)) :=
  ⟨_, rfl, rfl, rfl, h.2.1, heap_alloc_new _ _, (Below.heap_alloc _ _ _ (by have := h.2.1; omega)).trans h.2.2, h.1.alloc h.1.size _⟩
theorem tyCut_b {w w1 : World} (nm ws : ByteArray) (q : Nat) (ok : Bool) (h : Below w.heap.size w w1 ∧ w.heap.size + 2 ≤ w1.heap.size ∧ w1.heap[w.heap.size]? = some tyB) (hk : w1.heap[w.heap.size + 1]? = some tyB) :
    TyCut w nm ws q ok (.pointer (some ⟨w.heap.size + 1, 0, none⟩)) (.int .i64 (q : Int)) (.bool ok) ((w1.setCell ⟨w.heap.size + 1, 0, none⟩ (.string nm)).setCell ⟨w.heap.size + 1, 1, none⟩ (.string ws)) :=
  ⟨_, rfl, rfl, rfl, Nat.le_refl _, two_set hk _ _, by rw [Below.heap_setCell _ _ _ _ (show w.heap.size ≠ w.heap.size + 1 by omega), Below.heap_setCell _ _ _ _ (show w.heap.size ≠ w.heap.size + 1 by omega)]; exact h.2.2, bel_set2 h.1 (by omega) _ _⟩

set_option maxHeartbeats 4000000 in
set_option maxRecDepth 100000 in
theorem pType_any {c : Cx} {k : Nat} {s : Ms} (w : World) (h : Pv c k s w) : Calls Tryz.prog 282 #[.pointer (some ⟨c.R, 0, none⟩)] w fun e w' => e = .returned (.agg #[.string ⟨(tyM c.z s).1.1.toArray⟩, .string ⟨(tyM c.z s).1.2.toArray⟩]) ∧ Pw c k (tyM c.z s).2 w w' := by
  have hA := h.alloc tyB
  obtain ⟨m, p, hbk, hp, hm, hl⟩ := hA.bk
  obtain ⟨c0, c1, -, -, -, -, -⟩ := prCell hbk
  have HTa := vtype_at _ hA.drew hp hm hl
  have HTb := vtype_at _ (hA.alloc tyB).drew hp hm hl
  have hRlt := h.lt
  have HH := Lib.hid h
  have HALL := Lib.hid h.all
  have HBK := Lib.hid ((Below.heap_alloc w tyB _ h.lt).symm.trans hbk)
  have HP := Lib.hid (And.intro hp (And.intro hm hl))
  have hN := h.hN
  have hRN := h.hR
  have hBR : w.heap.size ≠ c.R := by omega
  cases ho : typeP (s.l.map strip) with
  | none =>
    have HM := Lib.hid (show tyM c.z s = (([], []), failM c.z 2 s) by unfold tyM; rw [ho])
    rw [ho] at HTa HTb
    clear ho hbk hA h hl hp hm
    unfold tyB at HTa HTb c0 c1
    go_enter Tryz.func282, Tryz.ntmps282
    go_upto_region 1 with fail
    go_cut [3, 4, 5] (fun v3 v4 v5 wc => TyCut w ⟨#[]⟩ ⟨#[]⟩ p false v3 v4 v5 wc)
    case first =>
      go_region_with ((go_at_call 304); (first | ((with_reducible refine HTa.mono ?_); rintro e w1 ⟨b1, rfl⟩; have b2 := type_a b1) | ((with_reducible refine HTb.mono ?_); rintro e w1 ⟨b1, rfl⟩; obtain ⟨b2, ⟨g0, g1⟩, gf, gk⟩ := type_b b1)))
      all_goals
        go_wp2_with fail
        go_meet
        case rel => first | exact tyCut_a _ _ _ _ b2 | exact tyCut_b _ _ _ _ b2 gk
    case rest =>
      obtain ⟨B, rfl, rfl, rfl, hB, hblk, hbox, hbel⟩ := hcut
      have HB := Lib.hid hbel
      have HX := Lib.hid hbox
      have HFL := pFail_any 2 wc (HALL.out _ hbel)
      have hs := hbel.size
      clear HTa HTb hblk hbel hbox
      go_wp2_with fail
      refine HFL.mono ?_
      rintro e w2 ⟨rfl, hp2⟩
      have HPX := Lib.hid (((Pw.refl HH.out).below HB.out).trans hp2)
      have h5 := aw_blk hp2.2 (Array.getElem?_eq_some_iff.1 HX.out).1 hBR HX.out
      obtain ⟨q0, q1, qf, ql⟩ := blk2 h5
      clear hp2 h5 HFL
      go_wp2_with fail
      refine bodyPost_ret (v := .agg #[.string ⟨#[]⟩, .string ⟨#[]⟩]) (by simp [results, Tryz.results282, go_sem, q0, q1]) rfl ?_
      rw [HM.out]
      exact ⟨rfl, (HPX.out.set HH.out.hN (q := ⟨w.heap.size, 0, none⟩) (Nat.le_refl _) _).set HH.out.hN (q := ⟨w.heap.size, 1, none⟩) (Nat.le_refl _) _⟩
  | some o =>
    obtain ⟨nm, ws, r⟩ := o
    have hrl := type_le ho
    rw [List.length_map, ← hl, take_drop_len hm] at hrl
    have HM := Lib.hid (show tyM c.z s = ((nm, ws), ⟨s.l.drop (m - r.length - p), s.er, s.wr⟩) by
      unfold tyM; rw [ho]
      show ((nm, ws), (⟨s.l.drop (s.l.length - r.length), s.er, s.wr⟩ : Ms)) = _
      rw [show s.l.length - r.length = m - r.length - p by rw [← hl, take_drop_len hm]; omega])
    rw [ho] at HTa HTb
    have HR := Lib.hid hrl
    clear ho hbk hA h hl hp hm hrl
    unfold tyB at HTa HTb c0 c1
    go_enter Tryz.func282, Tryz.ntmps282
    go_upto_region 1 with fail
    go_cut [3, 4, 5] (fun v3 v4 v5 wc => TyCut w ⟨nm.toArray⟩ ⟨ws.toArray⟩ (m - r.length) true v3 v4 v5 wc)
    case first =>
      go_region_with ((go_at_call 304); (first | ((with_reducible refine HTa.mono ?_); rintro e w1 ⟨b1, rfl⟩; have b2 := type_a b1) | ((with_reducible refine HTb.mono ?_); rintro e w1 ⟨b1, rfl⟩; obtain ⟨b2, ⟨g0, g1⟩, gf, gk⟩ := type_b b1)))
      all_goals
        go_wp2_with fail
        go_meet
        case rel => first | exact tyCut_a _ _ _ _ b2 | exact tyCut_b _ _ _ _ b2 gk
    case rest =>
      obtain ⟨B, rfl, rfl, rfl, hB, hblk, hbox, hbel⟩ := hcut
      have hk1 := (hbel.block _ hRlt).trans HBK.out
      have hgo := (HALL.out wc hbel).goTo (q := m - r.length) hk1 HP.out.2.1 HP.out.2.2 (by have := HR.out; have := HP.out.1; omega) (by omega)
      have HG := Lib.hid ((((Pw.refl HH.out).below hbel).trans hgo).set hN (q := ⟨w.heap.size, 0, none⟩) (Nat.le_refl _) (.string ⟨nm.toArray⟩) |>.set hN (q := ⟨w.heap.size, 1, none⟩) (Nat.le_refl _) (.string ⟨ws.toArray⟩))
      obtain ⟨-, k1, -, -, -, -, kf⟩ := prCell hk1
      obtain ⟨q0, q1, qf, ql⟩ := blk2 hbox
      obtain ⟨b0, b1, bf, bl⟩ := blk2 hblk
      have KK := two_set ((Below.heap_setCell wc ⟨c.R, 1, none⟩ (.int .i64 ((m - r.length : Nat) : Int)) _ hBR).trans hbox) (.string ⟨nm.toArray⟩) (.string ⟨ws.toArray⟩)
      obtain ⟨x0, x1, -, -⟩ := blk2 KK
      have KA := Lib.hid x0
      have KB := Lib.hid x1
      have hBc : B ≠ c.R := by omega
      have hBw : B ≠ w.heap.size := by omega
      clear HTa HTb hgo hk1 hbox hblk KK x0 x1 hbel
      go_wp2_with fail
      have ka := KA.out
      have kb := KB.out
      refine bodyPost_ret (v := .agg #[.string ⟨nm.toArray⟩, .string ⟨ws.toArray⟩]) (by simp [results, Tryz.results282, go_sem, ka, kb]) rfl ?_
      rw [HM.out]
      exact ⟨rfl, HG.out⟩

end Go.Proofs.YtkfllppggjhhmaaGreatDoor
/-
  doc's parser: one or more parts of type api.VarDef.
-/
namespace Go.Proofs.YtkfllppggjhhmaaGreatDoor
open Go.RowKit

theorem infoVar : (Tryz.prog.info? 59).map (fun i => (i.zero, i.size, i.bytes)) = some (some (.agg #[.string ⟨#[]⟩, .string ⟨#[]⟩, .string ⟨#[]⟩, .int .i64 0, .string ⟨#[]⟩, .slice none 0 0, .slice none 0 0]), 7, 120) := by kernel_rfl

set_option maxHeartbeats 4000000 in
set_option maxRecDepth 100000 in
theorem sevVar_any {c : Cx} {k : Nat} {s : Ms} (b e : List UInt8) (P : Ms → VarT × Ms) (w : World) (h : Pv c k s w) (hP : ∀ s' W, Pv c k s' W → Calls Tryz.prog 250 #[.pointer (some ⟨c.R, 0, none⟩)] W (RecAns VarE c k W (P s')))
    (hless : ∀ s', s'.er = 0 → (P s').2.er = 0 → (P s').2.l.length < s'.l.length) :
    Calls Tryz.prog 281 #[.pointer (some ⟨c.R, 0, none⟩), .string ⟨b.toArray⟩, .func (.func 250) #[.pointer (some ⟨c.R, 0, none⟩)] #[], .string ⟨e.toArray⟩] w (RowAns VarE 7 c k w (svM c.z b e P s)) := by
  obtain ⟨i2, hi2, hz20, hz21, hz22⟩ := info_parts infoVar
  have HM := pMust_any b w h
  have HRES := Lib.hid (show svM c.z b e P s = moreM e P ((sgM c.z b s).l.length + 1) (sgM c.z b s) [] from rfl)
  generalize svM c.z b e P s = RES at *
  generalize sgM c.z b s = s1 at *
  have HH := Lib.hid h
  have HPP := Lib.hid hP
  have HLS := Lib.hid hless
  have hN := h.hN
  have hRN := h.hR
  clear h hP hless
  go_enter Tryz.func281, Tryz.ntmps281
  go_wp2_with fail
  refine HM.mono ?_
  rintro ee w1 ⟨rfl, hp1⟩
  have hl1 := hp1.1.len
  have HP1 := Lib.hid hp1
  have HL1 := Lib.hid hl1
  clear hp1 HM hl1
  go_wp2_with fail
  go_loopg [9] (s1.l.length + 1) (fun j v9 wr => SevRel VarE c k w 59 7 e P RES j v9 wr)
  case atStart => exact ⟨s1, [], [], HP1.out, fun _ => Nat.lt_succ_self _, fun _ => by simpa using HL1.out, by decide, .nil, HRES.out.symm⟩
  case round =>
    obtain ⟨s2, xs, cs, hp2, hj, hx0, hx1, hrow, hres⟩ := hrel
    clear HP1 HL1 HRES
    obtain ⟨m, p, hbk, -, -, -⟩ := hp2.1.bk
    obtain ⟨-, -, -, -, c4, -, -⟩ := prCell hbk
    have hRr := hp2.1.lt
    have hsw := hp2.2.size
    have HPW := Lib.hid hp2
    have HROW := Lib.hid hrow
    have HX1 := Lib.hid hx1
    by_cases he : s2.er = 0
    · have hj := hj he
      obtain ⟨j2, rfl⟩ : ∃ j', gk = j' + 1 := ⟨gk - 1, by omega⟩
      rw [he] at c4
      have HS := Lib.hid (show RES = if isSg e (hdT (P s2).2.l) then (xs ++ [(P s2).1], tlM (P s2).2) else moreM e P j2 (P s2).2 (xs ++ [(P s2).1]) by rw [← hres, moreM, if_pos he])
      have hless := HLS.out s2 he
      have hx0 := hx0 he
      have hC := HPP.out s2 wr hp2.1
      generalize P s2 = RV at *
      obtain ⟨x, s3⟩ := RV
      dsimp only at HS hless
      have HE := Lib.hid he
      have HLL := Lib.hid hless
      have HX0 := Lib.hid hx0
      have HJ := Lib.hid hj
      clear hres hp2 hrow hbk he hless hx0 hx1 hj
      obtain ⟨aL, cL, rfl, hcL, _⟩ := fresh_row HROW.out.own
      go_wp2_with fail
      refine hC.mono ?_
      rintro ee w2 ⟨es, hee, hE, hp3⟩
      dsimp only at hE hp3
      obtain ⟨hz1, c0, c1, c2, c3, rfl, hE1⟩ := hE
      have hE' : VarE w2 (fun b => wr.heap.size ≤ b ∧ b < w2.heap.size) x [.string ⟨x.nm.toArray⟩, .string ⟨x.ty.1.toArray⟩, .string ⟨x.ty.2.toArray⟩, c0, c1, c2, c3] := ⟨hz1, c0, c1, c2, c3, rfl, hE1⟩
      obtain ⟨an, cn, ap, cp, hsh⟩ := hE1.shape
      obtain ⟨rfl, rfl, rfl, rfl⟩ := agg4_inj hsh
      clear hE1 hsh
      have hee : ee = .returned (.agg #[.string ⟨x.nm.toArray⟩, .string ⟨x.ty.1.toArray⟩, .string ⟨x.ty.2.toArray⟩, .int .i64 x.dflt.k, .string x.dflt.s, .slice an x.dflt.ns.length cn, .slice ap x.dflt.ps.length cp]) := hee
      subst hee
      have HPR := Lib.hid (rec_new w2 7 #[.string ⟨x.nm.toArray⟩, .string ⟨x.ty.1.toArray⟩, .string ⟨x.ty.2.toArray⟩, .int .i64 x.dflt.k, .string x.dflt.s, .slice an x.dflt.ns.length cn, .slice ap x.dflt.ps.length cp] 59)
      have HONE := Lib.hid ((varOk).one hE')
      have hA := HROW.out.app varOk hN HPW.out hp3 hE' (.cells #[.string ⟨x.nm.toArray⟩, .string ⟨x.ty.1.toArray⟩, .string ⟨x.ty.2.toArray⟩, .int .i64 x.dflt.k, .string x.dflt.s, .slice an x.dflt.ns.length cn, .slice ap x.dflt.ps.length cp] 59 (0, 0))
      have HA := Lib.hid hA
      have HOW := Lib.hid hA.1.own
      have HZ := Lib.hid (show w.heap.size ≤ (w2.alloc (.cells #[.string ⟨x.nm.toArray⟩, .string ⟨x.ty.1.toArray⟩, .string ⟨x.ty.2.toArray⟩, .int .i64 x.dflt.k, .string x.dflt.s, .slice an x.dflt.ns.length cn, .slice ap x.dflt.ps.length cp] 59 (0, 0))).heap.size by rw [hA.2.2]; have := hp3.2.size; omega)
      have HZ2 := Lib.hid hA.2.2
      have HP3 := Lib.hid hp3
      clear hp3 hE' hA hC
      have hxm : xs.length ≤ 1000 := by have := HX1.out; omega
      go_wp2_with (at_builtin; refine wpList_append_lies _ rfl _ _ 41 rfl w.heap.size 59 i2 (.agg #[.string ⟨#[]⟩, .string ⟨#[]⟩, .string ⟨#[]⟩, .int .i64 0, .string ⟨#[]⟩, .slice none 0 0, .slice none 0 0]) 7 120 Tryz.underlying41 hi2 hz20 hz21 hz22 rfl (by decide) (.slice aL xs.length cL) xs.length cs rfl HOW.out ⟨w2.heap.size, 0, none⟩ 1 1 [.string ⟨x.nm.toArray⟩, .string ⟨x.ty.1.toArray⟩, .string ⟨x.ty.2.toArray⟩, .int .i64 x.dflt.k, .string x.dflt.s, .slice an x.dflt.ns.length cn, .slice ap x.dflt.ps.length cp] rfl rfl HPR.out HONE.out (by decide) (by unfold maxLen; omega) (by omega) HZ.out (w2.heap.size + 1) HZ2.out ?_)
      intro g8 cap8 w8 hown8 hg8 hlie8 hl8
      obtain ⟨hrow8, hp8⟩ := app_done varOk HPW.out HP3.out HA.out hN hown8 hg8 (by
        rcases hlie8 with ea | ea
        · exact .inl ea.symm
        · exact .inr (by rw [HZ2.out, ea]; rfl))
      have HT := pTakeSign_any e w8 hp8.1
      have HR8 := Lib.hid hrow8
      have HP8 := Lib.hid hp8
      clear hown8 hg8 hlie8 hrow8 hp8 HPR HONE HA HOW HZ HZ2 HP3
      cases hi : isSg e (hdT s3.l) with
      | true =>
        rw [hi] at HT HS
        simp only [reduceIte] at HT HS
        clear hi
        go_wp2_with fail
        refine HT.mono ?_
        rintro ee w9 ⟨rfl, hp9⟩
        have HP9 := Lib.hid hp9
        clear hp9 HT
        go_wp2_with fail
        go_ret
        rw [HS.out]
        exact ⟨_, rfl, (HR8.out.call varOk hN hRN HP8.out HP9.out).done varOk (by rw [List.length_append, List.length_singleton]; omega), HP8.out.trans HP9.out⟩
      | false =>
        rw [hi] at HT HS
        simp only [reduceIte, Bool.false_eq_true] at HT HS
        clear hi
        go_wp2_with fail
        refine HT.mono ?_
        rintro ee w9 ⟨rfl, hp9⟩
        have HP9 := Lib.hid hp9
        clear hp9 HT
        go_wp2_with fail
        go_roundg j2
        case measure => omega
        case rel => exact sevRel_next (HR8.out.call varOk hN hRN HP8.out HP9.out) (HP8.out.trans HP9.out) HE.out HLL.out HX0.out HJ.out HS.out
    · have hne : ((s2.er : Int) == 0) = false := by rw [beq_eq_false_iff_ne]; omega
      have HS := Lib.hid (show RES = (xs, s2) by rw [← hres, moreM_bad e P he])
      obtain ⟨aL, cL, rfl, hcL, _⟩ := fresh_row HROW.out.own
      clear hres hp2 hrow hbk he hx0 hx1 hj
      go_wp2_with fail
      go_ret
      rw [HS.out]
      exact ⟨_, rfl, HROW.out.done varOk (by have := HX1.out; omega), HPW.out⟩

end Go.Proofs.YtkfllppggjhhmaaGreatDoor
