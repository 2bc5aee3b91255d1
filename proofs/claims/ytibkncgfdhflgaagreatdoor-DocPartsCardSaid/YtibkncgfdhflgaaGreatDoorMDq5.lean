/-
  doc's parser: a type.
-/
import Derived.Test.YtibkncgfdhflgaaGreatDoorMDv
import Derived.Deep.DeepCutAuto
namespace Go.Proofs.YtibkncgfdhflgaaGreatDoor
open Go.RowKit

def tyB : Obj := .cells #[.string ⟨#[]⟩, .string ⟨#[]⟩] 47
/-- The two orders in which the box of the type may be laid. -/
theorem type_a {w w1 : World} (hb : Below (w.alloc tyB).drew.heap.size (w.alloc tyB).drew w1) : Below w.heap.size w w1 ∧ w.heap.size + 1 ≤ w1.heap.size ∧ w1.heap[w.heap.size]? = some tyB := by
  have h1 : Below w.heap.size w (w.alloc tyB).drew := ((Below.refl _ w).alloc (Nat.le_refl _) _).drew
  have hs : (w.alloc tyB).drew.heap.size = w.heap.size + 1 := by show (w.alloc tyB).heap.size = _; simp
  have h0 : w1.heap[w.heap.size]? = some tyB := by
    rw [hb.block _ (by rw [hs]; omega)]
    exact heap_alloc_new w tyB
  exact ⟨h1.trans (hb.mono h1.size), by have := hb.size; omega, h0⟩
theorem type_b {w w1 : World} (hb : Below ((w.alloc tyB).alloc tyB).drew.heap.size ((w.alloc tyB).alloc tyB).drew w1) : (Below w.heap.size w w1 ∧ w.heap.size + 2 ≤ w1.heap.size ∧ w1.heap[w.heap.size]? = some tyB) ∧ (w1.cell? ⟨w.heap.size + 1, 0, none⟩ = some (.string ⟨#[]⟩) ∧ w1.cell? ⟨w.heap.size + 1, 1, none⟩ = some (.string ⟨#[]⟩)) ∧ (∀ j, w1.frozen? ⟨w.heap.size + 1, j, none⟩ = false) ∧ w1.heap[w.heap.size + 1]? = some tyB := by
  have h1 : Below w.heap.size w ((w.alloc tyB).alloc tyB).drew := (((Below.refl _ w).alloc (Nat.le_refl _) _).alloc (by simp) _).drew
  have hs : ((w.alloc tyB).alloc tyB).drew.heap.size = w.heap.size + 2 := by show ((w.alloc tyB).alloc tyB).heap.size = _; simp
  have hk : w1.heap[w.heap.size + 1]? = some tyB := by
    rw [hb.block _ (by rw [hs]; omega)]
    show ((w.alloc tyB).alloc tyB).heap[w.heap.size + 1]? = some tyB
    have := heap_alloc_new (w.alloc tyB) tyB
    rwa [show (w.alloc tyB).heap.size = w.heap.size + 1 by simp] at this
  have h0 : w1.heap[w.heap.size]? = some tyB := by
    rw [hb.block _ (by rw [hs]; omega)]
    show ((w.alloc tyB).alloc tyB).heap[w.heap.size]? = some tyB
    rw [Below.heap_alloc _ _ _ (by simp)]
    exact heap_alloc_new w tyB
  exact ⟨⟨h1.trans (hb.mono h1.size), by have := hb.size; omega, h0⟩, ⟨Lib.cell_of_heap hk 0, Lib.cell_of_heap hk 1⟩, fun j => by simp [World.frozen?, hk, tyB], hk⟩
theorem aw_blk {R n g : Nat} {a b : World} {o : Obj} (h : Aw R n a b) (hg : g < n) (hr : g ≠ R) (ho : a.heap[g]? = some o) : b.heap[g]? = some o := (h.block g hg hr).trans ho
theorem Pv.all {c : Cx} {k : Nat} {s : Ms} {w : World} (h : Pv c k s w) : ∀ W, Below w.heap.size w W → Pv c k s W := fun _ hb => h.below hb h.hN
theorem bel_set2 {w w1 : World} {b i j : Nat} (h : Below w.heap.size w w1) (hb : w.heap.size ≤ b) (u v : Value) : Below w.heap.size w ((w1.setCell ⟨b, i, none⟩ u).setCell ⟨b, j, none⟩ v) := (h.setCell (p := ⟨b, i, none⟩) hb u).setCell (p := ⟨b, j, none⟩) hb v

theorem two_set {W : World} {g : Nat} (h : W.heap[g]? = some tyB) (c0 c1 : Value) : ((W.setCell ⟨g, 0, none⟩ c0).setCell ⟨g, 1, none⟩ c1).heap[g]? = some (.cells #[c0, c1] 47 (0, 0)) := by
  rw [Lib.heap_setCell_same (Lib.heap_setCell_same h c0) c1]; rfl

/-- Behind the call of Type: the box of the type, the place, whether there is one. -/
def TyCut (w : World) (nm ws : ByteArray) (q : Nat) (ok : Bool) (v3 v4 v5 : Value) (wc : World) : Prop :=
  ∃ B, v3 = .pointer (some ⟨B, 0, none⟩) ∧ v4 = .int .i64 (q : Int) ∧ v5 = .bool ok ∧ w.heap.size + 1 ≤ B ∧ wc.heap[B]? = some (.cells #[.string nm, .string ws] 47 (0, 0)) ∧ wc.heap[w.heap.size]? = some tyB ∧ Below w.heap.size w wc
theorem tyCut_a {w w1 : World} (nm ws : ByteArray) (q : Nat) (ok : Bool) (h : Below w.heap.size w w1 ∧ w.heap.size + 1 ≤ w1.heap.size ∧ w1.heap[w.heap.size]? = some tyB) :
    TyCut w nm ws q ok (.pointer (some ⟨w1.heap.size, 0, none⟩)) (.int .i64 (q : Int)) (.bool ok) (w1.alloc (.cells #[.string nm, .string ws] 47)) :=
  ⟨_, rfl, rfl, rfl, h.2.1, heap_alloc_new _ _, (Below.heap_alloc _ _ _ (by have := h.2.1; omega)).trans h.2.2, h.1.alloc h.1.size _⟩
theorem tyCut_b {w w1 : World} (nm ws : ByteArray) (q : Nat) (ok : Bool) (h : Below w.heap.size w w1 ∧ w.heap.size + 2 ≤ w1.heap.size ∧ w1.heap[w.heap.size]? = some tyB) (hk : w1.heap[w.heap.size + 1]? = some tyB) :
    TyCut w nm ws q ok (.pointer (some ⟨w.heap.size + 1, 0, none⟩)) (.int .i64 (q : Int)) (.bool ok) ((w1.setCell ⟨w.heap.size + 1, 0, none⟩ (.string nm)).setCell ⟨w.heap.size + 1, 1, none⟩ (.string ws)) :=
  ⟨_, rfl, rfl, rfl, Nat.le_refl _, two_set hk _ _, by rw [Below.heap_setCell _ _ _ _ (show w.heap.size ≠ w.heap.size + 1 by omega), Below.heap_setCell _ _ _ _ (show w.heap.size ≠ w.heap.size + 1 by omega)]; exact h.2.2, bel_set2 h.1 (by omega) _ _⟩

set_option maxHeartbeats 4000000 in
set_option maxRecDepth 100000 in
theorem pType_any {c : Cx} {k : Nat} {s : Ms} (w : World) (h : Pv c k s w) : Calls Tryz.prog 159 #[.pointer (some ⟨c.R, 0, none⟩)] w fun e w' => e = .returned (.agg #[.string ⟨(tyM c.z s).1.1.toArray⟩, .string ⟨(tyM c.z s).1.2.toArray⟩]) ∧ Pw c k (tyM c.z s).2 w w' := by
  have hA := h.alloc tyB
  obtain ⟨m, p, hbk, hp, hm, hl⟩ := hA.bk
  obtain ⟨c0, c1, -, -, -, -, -⟩ := prCell hbk
  have HTa := vtype_at _ hA.drew hp hm hl
  have HTb := vtype_at _ (hA.alloc tyB).drew hp hm hl
  have hRlt := h.lt
  have HH := Lib.hid h
  have HALL := Lib.hid h.all
  have HBK := Lib.hid ((Below.heap_alloc w tyB _ h.lt).symm.trans hbk)
  have HP := Lib.hid (And.intro hp (And.intro hm hl))
  have hN := h.hN
  have hRN := h.hR
  have hBR : w.heap.size ≠ c.R := by omega
  cases ho : typeP (s.l.map strip) with
  | none =>
    have HM := Lib.hid (show tyM c.z s = (([], []), failM c.z 2 s) by unfold tyM; rw [ho])
    rw [ho] at HTa HTb
    clear ho hbk hA h hl hp hm
    unfold tyB at HTa HTb c0 c1
    go_enter Tryz.func159, Tryz.ntmps159
    go_upto_region 1 with fail
    go_cut [3, 4, 5] (fun v3 v4 v5 wc => TyCut w ⟨#[]⟩ ⟨#[]⟩ p false v3 v4 v5 wc)
    case first =>
      go_region_with ((go_at_call 174); (first | ((with_reducible refine HTa.mono ?_); rintro e w1 ⟨b1, rfl⟩; have b2 := type_a b1) | ((with_reducible refine HTb.mono ?_); rintro e w1 ⟨b1, rfl⟩; obtain ⟨b2, ⟨g0, g1⟩, gf, gk⟩ := type_b b1)))
      all_goals
        go_wp2_with fail
        go_meet
        case rel => first | exact tyCut_a _ _ _ _ b2 | exact tyCut_b _ _ _ _ b2 gk
    case rest =>
      obtain ⟨B, rfl, rfl, rfl, hB, hblk, hbox, hbel⟩ := hcut
      have HB := Lib.hid hbel
      have HX := Lib.hid hbox
      have HFL := pFail_any 2 wc (HALL.out _ hbel)
      have hs := hbel.size
      clear HTa HTb hblk hbel hbox
      go_wp2_with fail
      refine HFL.mono ?_
      rintro e w2 ⟨rfl, hp2⟩
      have HPX := Lib.hid (((Pw.refl HH.out).below HB.out).trans hp2)
      have h5 := aw_blk hp2.2 (Array.getElem?_eq_some_iff.1 HX.out).1 hBR HX.out
      obtain ⟨q0, q1, qf, ql⟩ := blk2 h5
      clear hp2 h5 HFL
      go_wp2_with fail
      refine bodyPost_ret (v := .agg #[.string ⟨#[]⟩, .string ⟨#[]⟩]) (by simp [results, Tryz.results159, go_sem, q0, q1]) rfl ?_
      rw [HM.out]
      exact ⟨rfl, (HPX.out.set HH.out.hN (q := ⟨w.heap.size, 0, none⟩) (Nat.le_refl _) _).set HH.out.hN (q := ⟨w.heap.size, 1, none⟩) (Nat.le_refl _) _⟩
  | some o =>
    obtain ⟨nm, ws, r⟩ := o
    have hrl := type_le ho
    rw [List.length_map, ← hl, take_drop_len hm] at hrl
    have HM := Lib.hid (show tyM c.z s = ((nm, ws), ⟨s.l.drop (m - r.length - p), s.er, s.wr⟩) by
      unfold tyM; rw [ho]
      show ((nm, ws), (⟨s.l.drop (s.l.length - r.length), s.er, s.wr⟩ : Ms)) = _
      rw [show s.l.length - r.length = m - r.length - p by rw [← hl, take_drop_len hm]; omega])
    rw [ho] at HTa HTb
    have HR := Lib.hid hrl
    clear ho hbk hA h hl hp hm hrl
    unfold tyB at HTa HTb c0 c1
    go_enter Tryz.func159, Tryz.ntmps159
    go_upto_region 1 with fail
    go_cut [3, 4, 5] (fun v3 v4 v5 wc => TyCut w ⟨nm.toArray⟩ ⟨ws.toArray⟩ (m - r.length) true v3 v4 v5 wc)
    case first =>
      go_region_with ((go_at_call 174); (first | ((with_reducible refine HTa.mono ?_); rintro e w1 ⟨b1, rfl⟩; have b2 := type_a b1) | ((with_reducible refine HTb.mono ?_); rintro e w1 ⟨b1, rfl⟩; obtain ⟨b2, ⟨g0, g1⟩, gf, gk⟩ := type_b b1)))
      all_goals
        go_wp2_with fail
        go_meet
        case rel => first | exact tyCut_a _ _ _ _ b2 | exact tyCut_b _ _ _ _ b2 gk
    case rest =>
      obtain ⟨B, rfl, rfl, rfl, hB, hblk, hbox, hbel⟩ := hcut
      have hk1 := (hbel.block _ hRlt).trans HBK.out
      have hgo := (HALL.out wc hbel).goTo (q := m - r.length) hk1 HP.out.2.1 HP.out.2.2 (by have := HR.out; have := HP.out.1; omega) (by omega)
      have HG := Lib.hid ((((Pw.refl HH.out).below hbel).trans hgo).set hN (q := ⟨w.heap.size, 0, none⟩) (Nat.le_refl _) (.string ⟨nm.toArray⟩) |>.set hN (q := ⟨w.heap.size, 1, none⟩) (Nat.le_refl _) (.string ⟨ws.toArray⟩))
      obtain ⟨-, k1, -, -, -, -, kf⟩ := prCell hk1
      obtain ⟨q0, q1, qf, ql⟩ := blk2 hbox
      obtain ⟨b0, b1, bf, bl⟩ := blk2 hblk
      have KK := two_set ((Below.heap_setCell wc ⟨c.R, 1, none⟩ (.int .i64 ((m - r.length : Nat) : Int)) _ hBR).trans hbox) (.string ⟨nm.toArray⟩) (.string ⟨ws.toArray⟩)
      obtain ⟨x0, x1, -, -⟩ := blk2 KK
      have KA := Lib.hid x0
      have KB := Lib.hid x1
      have hBc : B ≠ c.R := by omega
      have hBw : B ≠ w.heap.size := by omega
      clear HTa HTb hgo hk1 hbox hblk KK x0 x1 hbel
      go_wp2_with fail
      have ka := KA.out
      have kb := KB.out
      refine bodyPost_ret (v := .agg #[.string ⟨nm.toArray⟩, .string ⟨ws.toArray⟩]) (by simp [results, Tryz.results159, go_sem, ka, kb]) rfl ?_
      rw [HM.out]
      exact ⟨rfl, HG.out⟩

end Go.Proofs.YtibkncgfdhflgaaGreatDoor
