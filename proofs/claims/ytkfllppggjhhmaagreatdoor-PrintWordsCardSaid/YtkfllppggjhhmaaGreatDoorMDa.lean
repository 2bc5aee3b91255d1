/-
  doc's parser: a value, out of the tokens that are handed on.
-/
import Derived.Test.YtkfllppggjhhmaaGreatDoorMDv
namespace Go.Proofs.YtkfllppggjhhmaaGreatDoor
open Go.RowKit

def vzB : Obj := .cells #[.int .i64 0, .string ⟨#[]⟩, .slice none 0 0, .slice none 0 0] 53
theorem Pw.four {c : Cx} {k : Nat} {s : Ms} {w W : World} (h : Pw c k s w W) (hN : c.N ≤ w.heap.size) (c0 c1 c2 c3 : Value) : Pw c k s w ((((W.setCell ⟨w.heap.size, 0, none⟩ c0).setCell ⟨w.heap.size, 1, none⟩ c1).setCell ⟨w.heap.size, 2, none⟩ c2).setCell ⟨w.heap.size, 3, none⟩ c3) :=
  (((h.set hN (q := ⟨w.heap.size, 0, none⟩) (Nat.le_refl _) c0).set hN (q := ⟨w.heap.size, 1, none⟩) (Nat.le_refl _) c1).set hN (q := ⟨w.heap.size, 2, none⟩) (Nat.le_refl _) c2).set hN (q := ⟨w.heap.size, 3, none⟩) (Nat.le_refl _) c3

set_option maxHeartbeats 4000000 in
set_option maxRecDepth 100000 in
theorem pAmong_any {c : Cx} {k : Nat} {s : Ms} (w : World) (h : Pv c k s w) {m p q : Nat} (hbk : w.heap[c.R]? = some (prCells c k m p s.er s.wr)) (hpq : p ≤ q) (hqm : q ≤ m) (hm : m ≤ c.ts.length) (hl : (c.ts.take m).drop p = s.l) :
    Calls Tryz.prog 307 #[.pointer (some ⟨c.R, 0, none⟩), .slice c.a q c.cap] w (ValueAns c k w (vaM c.z ((c.ts.take q).drop p) s)) := by
  have hA := h.alloc vzB
  have hbA := (Below.heap_alloc w vzB _ h.lt).trans hbk
  obtain ⟨-, c1, -, -, -, -, -⟩ := prCell hbA
  have hqt : q ≤ c.ts.length := by omega
  have HT := vvalue_at _ hA hpq hqt
  have hle := pvT_le 12 (((c.ts.take q).drop p).map strip)
  rw [List.length_map, take_drop_len hqt] at hle
  have HM := Lib.hid (show vaM c.z ((c.ts.take q).drop p) s = if (pvT 12 (((c.ts.take q).drop p).map strip)).2.2 = 0 then ((pvT 12 (((c.ts.take q).drop p).map strip)).1, (⟨s.l.drop (q - (pvT 12 (((c.ts.take q).drop p).map strip)).2.1.length - p), s.er, s.wr⟩ : Ms)) else (vz, failM c.z (pvT 12 (((c.ts.take q).drop p).map strip)).2.2 ⟨s.l.drop (q - (pvT 12 (((c.ts.take q).drop p).map strip)).2.1.length - p), s.er, s.wr⟩) by
    unfold vaM
    dsimp only
    rw [take_drop_len hqt, show q - p - (pvT 12 (((c.ts.take q).drop p).map strip)).2.1.length = q - (pvT 12 (((c.ts.take q).drop p).map strip)).2.1.length - p by omega])
  generalize pvT 12 (((c.ts.take q).drop p).map strip) = RV at *
  obtain ⟨x, l', er⟩ := RV
  dsimp only at hle HM
  have hRlt := h.lt
  have HH := Lib.hid h
  have hN := h.hN
  have hRN := h.hR
  have HB1 := Lib.hid (fun w1 (hb : Below (w.alloc vzB).heap.size (w.alloc vzB) w1) => (show Below w.heap.size w w1 ∧ Bx w1 w.heap.size ∧ w.heap.size + 1 ≤ w1.heap.size from by
    have hs : (w.alloc vzB).heap.size = w.heap.size + 1 := by simp
    have h0 : Below w.heap.size w (w.alloc vzB) := (Below.refl _ w).alloc (Nat.le_refl _) _
    exact ⟨h0.trans (hb.mono h0.size), (Bx.new w).keep (hb.block _ (by rw [hs]; omega)), by have := hb.size; omega⟩))
  have HG := Lib.hid (fun w1 (hb : Below w.heap.size w w1) => (show Pw c k ⟨s.l.drop (q - l'.length - p), s.er, s.wr⟩ w (w1.setCell ⟨c.R, 1, none⟩ (.int .i64 ((q - l'.length : Nat) : Int))) ∧ w1.cell? ⟨c.R, 1, none⟩ = some (.int .i64 (p : Int)) ∧ w1.frozen? ⟨c.R, 1, none⟩ = false from by
    have hk1 := (hb.block _ h.lt).trans hbk
    obtain ⟨-, k1, -, -, -, -, kf⟩ := prCell hk1
    exact ⟨((Pw.refl h).below hb).trans ((h.below hb h.hN).goTo (q := q - l'.length) hk1 hm hl (by omega) (by omega)), k1, kf 1⟩))
  have hs0 : (w.alloc vzB).heap.size = w.heap.size + 1 := by simp
  clear h hA hbk hbA hl hqt hpq hqm hm
  unfold vzB at HT c1 hs0 HB1
  go_enter Tryz.func307, Tryz.ntmps307
  go_wp2_with fail
  refine HT.mono ?_
  rintro e w1 ⟨b1, v, rfl, ⟨kk, ss, an, ln, cn, ap, lp, cp, rfl⟩, hv⟩
  dsimp only at hv
  obtain ⟨b2, hbx, hz1⟩ := HB1.out w1 b1
  obtain ⟨hg, k1, kf⟩ := HG.out w1 b2
  rw [hs0] at hv
  have HV := Lib.hid hv
  have HGG := Lib.hid hg
  have HF := Lib.hid (fun (W : World) (hW : W.heap[w.heap.size]? = w1.heap[w.heap.size]?) c0 c1 c2 c3 o => bx_fourA (hbx.keep hW) c0 c1 c2 c3 o)
  obtain ⟨r0, r1, r2, r3, rf⟩ := hbx
  have hBR : w.heap.size ≠ c.R := by omega
  have hR1 : c.R < w1.heap.size := by omega
  have hB1 : w.heap.size < w1.heap.size := by omega
  have HB2 := Lib.hid b2
  by_cases he : er = 0
  · subst he
    rw [if_pos rfl] at HM
    have HVV := Lib.hid (show RdD w1 (fun b => w.heap.size + 1 ≤ b ∧ b < w1.heap.size) 13 x (.agg #[.int .i64 kk, .string ss, .slice an ln cn, .slice ap lp cp]) from by have := HV.out; rwa [if_pos rfl] at this)
    clear hv hg b1 HT HV hs0 b2
    go_wp2_with fail
    obtain ⟨k0, k1', k2, k3⟩ := HF.out (w1.setCell ⟨c.R, 1, none⟩ (.int .i64 ((q - l'.length : Nat) : Int))) (Below.heap_setCell _ _ _ _ hBR) (.int .i64 kk) (.string ss) (.slice an ln cn) (.slice ap lp cp) (.cells #[.int .i64 kk, .string ss, .slice an ln cn, .slice ap lp cp] 53)
    refine bodyPost_ret (v := .agg #[.int .i64 kk, .string ss, .slice an ln cn, .slice ap lp cp]) (by simp [results, Tryz.results307, go_sem, k0, k1', k2, k3]) rfl ?_
    rw [HM.out]
    refine ⟨_, _, _, _, _, _, _, _, rfl, ?_, (HGG.out.four HH.out.hN _ _ _ _).below ((Below.refl _ _).alloc (Nat.le_refl _) _)⟩
    refine RdD.step (fun b hd => ⟨by omega, ?_⟩) (fun b o hd => World.cell?_of_block (a := ⟨b, o, none⟩) ?_) HVV.out
    · have hsz : (w1.setCell ⟨c.R, 1, none⟩ (.int .i64 ((q - l'.length : Nat) : Int))).heap.size = w1.heap.size := by simp [World.setCell]
      rw [Below.heap_alloc _ _ _ (by rw [size_four, hsz]; exact hd.2), heap_four _ _ _ _ _ _ b (by omega), Below.heap_setCell _ _ _ _ (show b ≠ c.R by omega)]
    · rw [show ∀ (W : World) (o : Obj), (W.alloc o).heap.size = W.heap.size + 1 from fun W o => by simp, size_four]
      have : (w1.setCell ⟨c.R, 1, none⟩ (.int .i64 ((q - l'.length : Nat) : Int))).heap.size = w1.heap.size := by simp [World.setCell]
      omega
  · rw [if_neg he] at HM
    have hv0 := HV.out
    rw [if_neg he] at hv0
    unfold leaf at hv0
    injection hv0 with hv0
    have hv1 := congrArg Array.toList hv0
    simp at hv1
    obtain ⟨rfl, rfl, ⟨rfl, rfl, rfl⟩, ⟨rfl, rfl, rfl⟩⟩ := hv1
    have hne : ((er : Int) != 0) = true := by simp; omega
    have hne2 : ((er : Int) == 0) = false := by rw [beq_eq_false_iff_ne]; omega
    have hP2 := HGG.out.below ((Below.refl _ _).alloc (Nat.le_refl _) vzB)
    have HFL := pFail_any er _ hP2.1
    have HP2 := Lib.hid hP2
    unfold vzB at HFL
    have hbb : ((w1.setCell ⟨c.R, 1, none⟩ (.int .i64 ((q - l'.length : Nat) : Int))).alloc vzB).heap[w1.heap.size]? = some vzB := by
      have := heap_alloc_new (w1.setCell ⟨c.R, 1, none⟩ (.int .i64 ((q - l'.length : Nat) : Int))) vzB
      rwa [show (w1.setCell ⟨c.R, 1, none⟩ (.int .i64 ((q - l'.length : Nat) : Int))).heap.size = w1.heap.size by simp [World.setCell]] at this
    have hb0 : ((w1.setCell ⟨c.R, 1, none⟩ (.int .i64 ((q - l'.length : Nat) : Int))).alloc vzB).heap[w.heap.size]? = w1.heap[w.heap.size]? := by
      rw [Below.heap_alloc _ _ _ (by simp [World.setCell]; omega), Below.heap_setCell _ _ _ _ hBR]
    have hsz2 : ((w1.setCell ⟨c.R, 1, none⟩ (.int .i64 ((q - l'.length : Nat) : Int))).alloc vzB).heap.size = w1.heap.size + 1 := by simp [World.setCell]
    have HBB := Lib.hid hbb
    have HB0 := Lib.hid hb0
    have HSZ := Lib.hid hsz2
    have HFN := Lib.hid (fun (W : World) (hW : W.heap[w.heap.size]? = w1.heap[w.heap.size]?) c0 c1 c2 c3 => bx_four ((⟨r0, r1, r2, r3, rf⟩ : Bx w1 w.heap.size).keep hW) c0 c1 c2 c3)
    clear hv hg b1 HT HV hs0 hv0 b2 he hP2 hbb hb0 hsz2
    go_wp2_with fail
    refine HFL.mono ?_
    rintro e w2 ⟨rfl, hp2⟩
    have hB1 := hp2.2.block w1.heap.size (by have := HSZ.out; unfold vzB at this; omega) (by omega)
    have hB0 := hp2.2.block w.heap.size (by have := HSZ.out; unfold vzB at this; omega) hBR
    have hbb := hB1.trans HBB.out
    have hb0 := hB0.trans HB0.out
    unfold vzB at hbb
    obtain ⟨d0, d1, d2, d3, df, dl⟩ := blk4 hbb
    have hbx2 := (⟨r0, r1, r2, r3, rf⟩ : Bx w1 w.heap.size).keep hb0
    have HX := Lib.hid (HP2.out.trans hp2)
    have HF2 := Lib.hid (bx_four hbx2 (.int .i64 0) (.string ⟨#[]⟩) (.slice none 0 0) (.slice none 0 0))
    clear hp2 hB1 hB0 hbb hb0 HFL r0 r1 r2 r3 rf k1 kf
    obtain ⟨r0, r1, r2, r3, rf⟩ := hbx2
    go_wp2_with fail
    obtain ⟨k0, k1, k2, k3⟩ := HF2.out
    refine bodyPost_ret (v := .agg #[.int .i64 0, .string ⟨#[]⟩, .slice none 0 0, .slice none 0 0]) (by simp [results, Tryz.results307, go_sem, k0, k1, k2, k3]) rfl ?_
    rw [HM.out]
    exact ⟨_, _, _, _, _, _, _, _, rfl, rd_leaf _ _ 12 0 ⟨#[]⟩ (Nat.zero_le _), HX.out.four HH.out.hN _ _ _ _⟩

set_option maxHeartbeats 2000000 in
set_option maxRecDepth 100000 in
theorem pValue_any {c : Cx} {k : Nat} {s : Ms} (w : World) (h : Pv c k s w) : Calls Tryz.prog 316 #[.pointer (some ⟨c.R, 0, none⟩)] w (ValueAns c k w (vlM c.z s)) := by
  have hA := h.alloc vzB
  obtain ⟨m, p, hbk, hp, hm, hl⟩ := hA.bk
  obtain ⟨c0, -, -, -, -, -, -⟩ := prCell hbk
  have HT := pAmong_any _ hA hbk hp (Nat.le_refl m) hm hl
  rw [hl] at HT
  have HH := Lib.hid h
  have hN := h.hN
  have hRN := h.hR
  have hRlt := h.lt
  have HM := Lib.hid (show vlM c.z s = vaM c.z s.l s from rfl)
  have HB := Lib.hid (show (w.alloc vzB).heap[w.heap.size]? = some vzB from heap_alloc_new w vzB)
  have HS := Lib.hid (show (w.alloc vzB).heap.size = w.heap.size + 1 by simp)
  have HP := Lib.hid (Pw.of h ((Below.refl _ w).alloc (Nat.le_refl _) vzB))
  generalize vaM c.z s.l s = RV at *
  clear hA hbk h hl hp hm
  unfold vzB at HT c0
  go_enter Tryz.func316, Tryz.ntmps316
  go_wp2_with fail
  refine HT.mono ?_
  rintro e w1 ⟨kk, ss, an, ln, cn, ap, lp, cp, rfl, hR, hp1⟩
  have hb0 := (hp1.2.block w.heap.size (by have := HS.out; unfold vzB at this; omega) (by omega)).trans HB.out
  have hbx : Bx w1 w.heap.size := (Bx.new w).keep (hp1.2.block w.heap.size (by have := HS.out; unfold vzB at this; omega) (by omega))
  have HX := Lib.hid (HP.out.trans hp1)
  have HRR := Lib.hid hR
  have HF2 := Lib.hid (bx_four hbx (.int .i64 kk) (.string ss) (.slice an ln cn) (.slice ap lp cp))
  clear hp1 hb0 hR HT
  obtain ⟨r0, r1, r2, r3, rf⟩ := hbx
  go_wp2_with fail
  obtain ⟨k0, k1, k2, k3⟩ := HF2.out
  refine bodyPost_ret (v := .agg #[.int .i64 kk, .string ss, .slice an ln cn, .slice ap lp cp]) (by simp [results, Tryz.results316, go_sem, k0, k1, k2, k3]) rfl ?_
  rw [HM.out]
  refine ⟨_, _, _, _, _, _, _, _, rfl, ?_, HX.out.four HH.out.hN _ _ _ _⟩
  refine RdD.step (fun b hd => ⟨?_, by rw [size_four]; exact hd.2⟩) (fun b o hd => World.cell?_of_block (a := ⟨b, o, none⟩) (heap_four _ _ _ _ _ _ b ?_)) HRR.out
  · have := HS.out; unfold vzB at this; have := hd.1; omega
  · have := HS.out; unfold vzB at this; have := hd.1; omega

end Go.Proofs.YtkfllppggjhhmaaGreatDoor
/-
  doc's parser: parts that are appended, one behind the other.
-/
namespace Go.Proofs.YtkfllppggjhhmaaGreatDoor
open Go.RowKit

theorem Pv.len {c : Cx} {k : Nat} {s : Ms} {w : World} (h : Pv c k s w) : s.l.length ≤ 600 := by
  obtain ⟨m, p, _, hp, hm, hl⟩ := h.bk
  rw [← hl, take_drop_len hm]
  have := h.hs
  omega
theorem agg4_inj {a b c d a' b' c' d' : Value} (h : Value.agg #[a, b, c, d] = .agg #[a', b', c', d']) : a = a' ∧ b = b' ∧ c = c' ∧ d = d' := by
  injection h with h
  have h' := congrArg Array.toList h
  simp at h'
  exact h'
/-- What remains of a loop of several. -/
def SevRel {α : Type} (E : ElemR α) (c : Cx) (k : Nat) (w : World) (T : TypeId) (sz : Nat) (e : List UInt8) (P : Ms → α × Ms) (RES : List α × Ms) (j : Nat) (v : Value) (wr : World) : Prop :=
  ∃ (s2 : Ms) (xs : List α) (cs : List Value), Pw c k s2 w wr ∧ (s2.er = 0 → s2.l.length < j) ∧ (s2.er = 0 → xs.length + s2.l.length ≤ 600) ∧ xs.length ≤ 601 ∧ OwnR E w.heap.size T sz xs cs v wr ∧ moreM e P j s2 xs = RES

theorem rec_new (w : World) (sz : Nat) (cs : Array Value) (T : TypeId) : ∀ j u, cs.toList[j]? = some u → (w.alloc (.cells cs T (0, 0))).cell? ((⟨w.heap.size, 0, none⟩ : Addr).add j) = some u := by
  intro j u hj
  have _ := sz
  rw [Go.WideShapes.add_plain, Nat.zero_add]
  have hb : (w.alloc (.cells cs T (0, 0))).heap[w.heap.size]? = some (.cells cs T (0, 0)) := heap_alloc_new _ _
  rw [Lib.cell_of_heap hb j, ← hj, Array.getElem?_toList]

/-- A part has been read, and its cells laid once more: the row as it was, and the part. -/
theorem OwnR.app {α : Type} {E : ElemR α} {T : TypeId} {sz : Nat} {c : Cx} {k k2 : Nat} {w wr w2 : World} {s2 s3 : Ms} {xs : List α} {cs es : List Value} {v : Value} {x : α} (h : OwnR E w.heap.size T sz xs cs v wr) (hE : ElemOk E sz) (hN : c.N ≤ w.heap.size) (hp : Pw c k s2 w wr) (hc : Pw c k2 s3 wr w2)
    (hx : E w2 (fun b => wr.heap.size ≤ b ∧ b < w2.heap.size) x es) (o : Obj) : OwnR E w.heap.size T sz xs cs v (w2.alloc o) ∧ E (w2.alloc o) (OD w.heap.size (w2.alloc o) v) x es ∧ (w2.alloc o).heap.size = w2.heap.size + 1 := by
  have hz : (w2.alloc o).heap.size = w2.heap.size + 1 := by simp
  have h1 := hp.2.size
  have h2 := hc.2.size
  have hR := hp.1.hR
  refine ⟨h.keep hE (fun b hb hl => ?_) (by omega), hE.step (fun b hd => ⟨by omega, by omega, fun e => ?_⟩) (fun b o' hd => World.cell?_of_block (a := ⟨b, o', none⟩) (Below.heap_alloc _ _ _ hd.2)) hx, hz⟩
  · rw [Below.heap_alloc _ _ _ (by omega)]
    exact hc.2.block b hl (by omega)
  · have := (h.own.lt b e).2
    omega
theorem app_done {α : Type} {E : ElemR α} {T : TypeId} {sz : Nat} {c : Cx} {k k2 : Nat} {w wr w2 w8 : World} {s2 s3 : Ms} {xs : List α} {cs es : List Value} {v v' : Value} {x : α} {o : Obj} (hE : ElemOk E sz) (hp : Pw c k s2 w wr) (hc : Pw c k2 s3 wr w2)
    (hA : OwnR E w.heap.size T sz xs cs v (w2.alloc o) ∧ E (w2.alloc o) (OD w.heap.size (w2.alloc o) v) x es ∧ (w2.alloc o).heap.size = w2.heap.size + 1) (hN : c.N ≤ w.heap.size)
    (hown : w8.ownsRow w.heap.size T sz v' (xs.length + 1) (cs ++ es)) (hg : (w2.alloc o).grownBy w8 v.ownBlock) (hlie : v'.ownBlock = v.ownBlock ∨ v'.ownBlock = some (w2.alloc o).heap.size) :
    OwnR E w.heap.size T sz (xs ++ [x]) (cs ++ es) v' w8 ∧ Pw c k2 s3 w w8 := by
  have hz := hg.size
  have h1 := hp.2.size
  have h2 := hc.2.size
  have hb : Below w.heap.size (w2.alloc o) w8 := ⟨hg.os, hg.tape, hg.output, hg.size, fun b hb => hg.block b (by rw [hA.2.2]; omega) (fun e => by
    have := (hA.1.own.lt b (by first | exact e | exact e.symm)).1
    omega)⟩
  refine ⟨hA.1.snoc hE hA.2.1 hown hg hlie, (hc.1.alloc o).below hb hN, ?_⟩
  exact (hp.2.trans (hc.2.mono h1)).trans (.of (((Below.refl w.heap.size w2).alloc (by omega) o).trans hb))
theorem OwnR.call {α : Type} {E : ElemR α} {T : TypeId} {sz : Nat} {c : Cx} {k k2 : Nat} {w W W' : World} {s2 s3 : Ms} {xs : List α} {cs : List Value} {v : Value} (h : OwnR E w.heap.size T sz xs cs v W) (hE : ElemOk E sz) (hN : c.N ≤ w.heap.size) (hR : c.R < c.N) (_ : Pw c k s2 w W) (hc : Pw c k2 s3 W W') : OwnR E w.heap.size T sz xs cs v W' :=
  h.keep hE (fun b hb hl => hc.2.block b hl (by omega)) hc.2.size
theorem sevRel_next {α : Type} {E : ElemR α} {c : Cx} {k : Nat} {w w9 : World} {T : TypeId} {sz : Nat} {e : List UInt8} {P : Ms → α × Ms} {RES : List α × Ms} {j : Nat} {v : Value} {s2 s3 : Ms} {xs : List α} {x : α} {cs : List Value} (hrow : OwnR E w.heap.size T sz (xs ++ [x]) cs v w9) (hp : Pw c k s3 w w9)
    (_ : s2.er = 0) (hless : s3.er = 0 → s3.l.length < s2.l.length) (hx : xs.length + s2.l.length ≤ 600) (hj : s2.l.length < j + 1) (hres : RES = moreM e P j s3 (xs ++ [x])) : SevRel E c k w T sz e P RES j v w9 := by
  have hxl : (xs ++ [x]).length = xs.length + 1 := by rw [List.length_append, List.length_singleton]
  by_cases h3 : s3.er = 0
  · have := hless h3
    exact ⟨s3, xs ++ [x], cs, hp, fun _ => by omega, fun _ => by omega, by omega, hrow, hres.symm⟩
  · exact ⟨s3, xs ++ [x], cs, hp, fun h => absurd h h3, fun h => absurd h h3, by omega, hrow, hres.symm⟩
theorem moreM_bad {α : Type} (e : List UInt8) (P : Ms → α × Ms) {s : Ms} (h : s.er ≠ 0) : ∀ (n : Nat) (acc : List α), moreM e P n s acc = (acc, s)
  | 0, _ => rfl
  | n + 1, acc => by rw [moreM, if_neg h]

end Go.Proofs.YtkfllppggjhhmaaGreatDoor
/-
  doc's parser: one or more parts of type api.Arg.
-/
namespace Go.Proofs.YtkfllppggjhhmaaGreatDoor
open Go.RowKit

theorem infoArg : (Tryz.prog.info? 55).map (fun i => (i.zero, i.size, i.bytes)) = some (some (.agg #[.string ⟨#[]⟩, .int .i64 0, .string ⟨#[]⟩, .slice none 0 0, .slice none 0 0]), 5, 88) := by kernel_rfl

set_option maxHeartbeats 4000000 in
set_option maxRecDepth 100000 in
theorem sevArg_any {c : Cx} {k : Nat} {s : Ms} (b e : List UInt8) (P : Ms → ArgT × Ms) (w : World) (h : Pv c k s w) (hP : ∀ s' W, Pv c k s' W → Calls Tryz.prog 303 #[.pointer (some ⟨c.R, 0, none⟩)] W (RecAns ArgE c k W (P s')))
    (hless : ∀ s', s'.er = 0 → (P s').2.er = 0 → (P s').2.l.length < s'.l.length) :
    Calls Tryz.prog 315 #[.pointer (some ⟨c.R, 0, none⟩), .string ⟨b.toArray⟩, .func (.func 303) #[.pointer (some ⟨c.R, 0, none⟩)] #[], .string ⟨e.toArray⟩] w (RowAns ArgE 5 c k w (svM c.z b e P s)) := by
  obtain ⟨i2, hi2, hz20, hz21, hz22⟩ := info_parts infoArg
  have HM := pMust_any b w h
  have HRES := Lib.hid (show svM c.z b e P s = moreM e P ((sgM c.z b s).l.length + 1) (sgM c.z b s) [] from rfl)
  generalize svM c.z b e P s = RES at *
  generalize sgM c.z b s = s1 at *
  have HH := Lib.hid h
  have HPP := Lib.hid hP
  have HLS := Lib.hid hless
  have hN := h.hN
  have hRN := h.hR
  clear h hP hless
  go_enter Tryz.func315, Tryz.ntmps315
  go_wp2_with fail
  refine HM.mono ?_
  rintro ee w1 ⟨rfl, hp1⟩
  have hl1 := hp1.1.len
  have HP1 := Lib.hid hp1
  have HL1 := Lib.hid hl1
  clear hp1 HM hl1
  go_wp2_with fail
  go_loopg [9] (s1.l.length + 1) (fun j v9 wr => SevRel ArgE c k w 55 5 e P RES j v9 wr)
  case atStart => exact ⟨s1, [], [], HP1.out, fun _ => Nat.lt_succ_self _, fun _ => by simpa using HL1.out, by decide, .nil, HRES.out.symm⟩
  case round =>
    obtain ⟨s2, xs, cs, hp2, hj, hx0, hx1, hrow, hres⟩ := hrel
    clear HP1 HL1 HRES
    obtain ⟨m, p, hbk, -, -, -⟩ := hp2.1.bk
    obtain ⟨-, -, -, -, c4, -, -⟩ := prCell hbk
    have hRr := hp2.1.lt
    have hsw := hp2.2.size
    have HPW := Lib.hid hp2
    have HROW := Lib.hid hrow
    have HX1 := Lib.hid hx1
    by_cases he : s2.er = 0
    · have hj := hj he
      obtain ⟨j2, rfl⟩ : ∃ j', gk = j' + 1 := ⟨gk - 1, by omega⟩
      rw [he] at c4
      have HS := Lib.hid (show RES = if isSg e (hdT (P s2).2.l) then (xs ++ [(P s2).1], tlM (P s2).2) else moreM e P j2 (P s2).2 (xs ++ [(P s2).1]) by rw [← hres, moreM, if_pos he])
      have hless := HLS.out s2 he
      have hx0 := hx0 he
      have hC := HPP.out s2 wr hp2.1
      generalize P s2 = RV at *
      obtain ⟨x, s3⟩ := RV
      dsimp only at HS hless
      have HE := Lib.hid he
      have HLL := Lib.hid hless
      have HX0 := Lib.hid hx0
      have HJ := Lib.hid hj
      clear hres hp2 hrow hbk he hless hx0 hx1 hj
      obtain ⟨aL, cL, rfl, hcL, _⟩ := fresh_row HROW.out.own
      go_wp2_with fail
      refine hC.mono ?_
      rintro ee w2 ⟨es, hee, hE, hp3⟩
      dsimp only at hE hp3
      obtain ⟨hz1, c0, c1, c2, c3, rfl, hE1⟩ := hE
      have hE' : ArgE w2 (fun b => wr.heap.size ≤ b ∧ b < w2.heap.size) x [.string ⟨x.1.toArray⟩, c0, c1, c2, c3] := ⟨hz1, c0, c1, c2, c3, rfl, hE1⟩
      obtain ⟨an, cn, ap, cp, hsh⟩ := hE1.shape
      obtain ⟨rfl, rfl, rfl, rfl⟩ := agg4_inj hsh
      clear hE1 hsh
      have hee : ee = .returned (.agg #[.string ⟨x.1.toArray⟩, .int .i64 x.2.k, .string x.2.s, .slice an x.2.ns.length cn, .slice ap x.2.ps.length cp]) := hee
      subst hee
      have HPR := Lib.hid (rec_new w2 5 #[.string ⟨x.1.toArray⟩, .int .i64 x.2.k, .string x.2.s, .slice an x.2.ns.length cn, .slice ap x.2.ps.length cp] 55)
      have HONE := Lib.hid ((argOk).one hE')
      have hA := HROW.out.app argOk hN HPW.out hp3 hE' (.cells #[.string ⟨x.1.toArray⟩, .int .i64 x.2.k, .string x.2.s, .slice an x.2.ns.length cn, .slice ap x.2.ps.length cp] 55 (0, 0))
      have HA := Lib.hid hA
      have HOW := Lib.hid hA.1.own
      have HZ := Lib.hid (show w.heap.size ≤ (w2.alloc (.cells #[.string ⟨x.1.toArray⟩, .int .i64 x.2.k, .string x.2.s, .slice an x.2.ns.length cn, .slice ap x.2.ps.length cp] 55 (0, 0))).heap.size by rw [hA.2.2]; have := hp3.2.size; omega)
      have HZ2 := Lib.hid hA.2.2
      have HP3 := Lib.hid hp3
      clear hp3 hE' hA hC
      have hxm : xs.length ≤ 1000 := by have := HX1.out; omega
      go_wp2_with (at_builtin; refine wpList_append_lies _ rfl _ _ 47 rfl w.heap.size 55 i2 (.agg #[.string ⟨#[]⟩, .int .i64 0, .string ⟨#[]⟩, .slice none 0 0, .slice none 0 0]) 5 88 Tryz.underlying47 hi2 hz20 hz21 hz22 rfl (by decide) (.slice aL xs.length cL) xs.length cs rfl HOW.out ⟨w2.heap.size, 0, none⟩ 1 1 [.string ⟨x.1.toArray⟩, .int .i64 x.2.k, .string x.2.s, .slice an x.2.ns.length cn, .slice ap x.2.ps.length cp] rfl rfl HPR.out HONE.out (by decide) (by unfold maxLen; omega) (by omega) HZ.out (w2.heap.size + 1) HZ2.out ?_)
      intro g8 cap8 w8 hown8 hg8 hlie8 hl8
      obtain ⟨hrow8, hp8⟩ := app_done argOk HPW.out HP3.out HA.out hN hown8 hg8 (by
        rcases hlie8 with ea | ea
        · exact .inl ea.symm
        · exact .inr (by rw [HZ2.out, ea]; rfl))
      have HT := pTakeSign_any e w8 hp8.1
      have HR8 := Lib.hid hrow8
      have HP8 := Lib.hid hp8
      clear hown8 hg8 hlie8 hrow8 hp8 HPR HONE HA HOW HZ HZ2 HP3
      cases hi : isSg e (hdT s3.l) with
      | true =>
        rw [hi] at HT HS
        simp only [reduceIte] at HT HS
        clear hi
        go_wp2_with fail
        refine HT.mono ?_
        rintro ee w9 ⟨rfl, hp9⟩
        have HP9 := Lib.hid hp9
        clear hp9 HT
        go_wp2_with fail
        go_ret
        rw [HS.out]
        exact ⟨_, rfl, (HR8.out.call argOk hN hRN HP8.out HP9.out).done argOk (by rw [List.length_append, List.length_singleton]; omega), HP8.out.trans HP9.out⟩
      | false =>
        rw [hi] at HT HS
        simp only [reduceIte, Bool.false_eq_true] at HT HS
        clear hi
        go_wp2_with fail
        refine HT.mono ?_
        rintro ee w9 ⟨rfl, hp9⟩
        have HP9 := Lib.hid hp9
        clear hp9 HT
        go_wp2_with fail
        go_roundg j2
        case measure => omega
        case rel => exact sevRel_next (HR8.out.call argOk hN hRN HP8.out HP9.out) (HP8.out.trans HP9.out) HE.out HLL.out HX0.out HJ.out HS.out
    · have hne : ((s2.er : Int) == 0) = false := by rw [beq_eq_false_iff_ne]; omega
      have HS := Lib.hid (show RES = (xs, s2) by rw [← hres, moreM_bad e P he])
      obtain ⟨aL, cL, rfl, hcL, _⟩ := fresh_row HROW.out.own
      clear hres hp2 hrow hbk he hx0 hx1 hj
      go_wp2_with fail
      go_ret
      rw [HS.out]
      exact ⟨_, rfl, HROW.out.done argOk (by have := HX1.out; omega), HPW.out⟩

end Go.Proofs.YtkfllppggjhhmaaGreatDoor
/-
  doc's parser: arguments, directives.
-/
namespace Go.Proofs.YtkfllppggjhhmaaGreatDoor
open Go.RowKit

/-! ### what is read takes a token -/
theorem tl_less {s : Ms} (h : (hdT s.l).k ≠ 0) : (tlM s).l.length < s.l.length := by
  show s.l.tail.length < s.l.length
  cases hs : s.l with
  | nil => rw [hs] at h; exact absurd rfl h
  | cons t r => show r.length < r.length + 1; omega
theorem tl_le (s : Ms) : (tlM s).l.length ≤ s.l.length := tail_le _
theorem fail_le (z e : Nat) (s : Ms) : (failM z e s).l.length ≤ s.l.length := by
  unfold failM
  split
  · exact Nat.zero_le _
  · exact Nat.le_refl _
theorem fail_er (z : Nat) {e : Nat} (he : e ≠ 0) (s : Ms) : (failM z e s).er ≠ 0 := by
  unfold failM
  split
  · exact he
  · assumption
theorem sgT_k {g : List UInt8} {t : Tk} (h : isSg g t = true) : t.k ≠ 0 := by
  unfold isSg at h
  rw [Bool.and_eq_true, beq_iff_eq] at h
  rw [h.1]; decide
theorem wdT_k {g : List UInt8} {t : Tk} (h : isWd g t = true) : t.k ≠ 0 := by
  unfold isWd at h
  rw [Bool.and_eq_true, beq_iff_eq] at h
  rw [h.1]; decide
/-- It does not go back; where it has gone wrong it stays so. -/
structure Fwd (s s' : Ms) : Prop where
  le : s'.l.length ≤ s.l.length
  er : s.er ≠ 0 → s'.er ≠ 0
/-- It has read a token, or gone wrong. -/
structure Eats (s s' : Ms) : Prop where
  le : s'.l.length ≤ s.l.length
  er : s.er ≠ 0 → s'.er ≠ 0
  lt : s'.er = 0 → s'.l.length < s.l.length
theorem Fwd.refl (s : Ms) : Fwd s s := ⟨Nat.le_refl _, id⟩
theorem Fwd.trans {a b d : Ms} (h : Fwd a b) (k : Fwd b d) : Fwd a d := ⟨Nat.le_trans k.le h.le, fun e => k.er (h.er e)⟩
theorem Eats.fwd {a b : Ms} (h : Eats a b) : Fwd a b := ⟨h.le, h.er⟩
theorem Eats.then {a b d : Ms} (h : Eats a b) (k : Fwd b d) : Eats a d := ⟨Nat.le_trans k.le h.le, fun e => k.er (h.er e), fun e => by
  have h1 : b.er = 0 := Classical.byContradiction fun hb => k.er hb e
  have := h.lt h1
  have := k.le
  omega⟩
theorem Fwd.then {a b d : Ms} (h : Fwd a b) (k : Eats b d) : Eats a d := ⟨Nat.le_trans k.le h.le, fun e => k.er (h.er e), fun e => by
  have := k.lt e
  have := h.le
  omega⟩
theorem tl_eats {s : Ms} (h : (hdT s.l).k ≠ 0) : Eats s (tlM s) := ⟨tl_le s, id, fun _ => tl_less h⟩
theorem fail_eats (z : Nat) {e : Nat} (he : e ≠ 0) (s : Ms) : Eats s (failM z e s) := ⟨fail_le z e s, fun _ => fail_er z he s, fun h => absurd h (fail_er z he s)⟩
theorem sgM_eats (z : Nat) (g : List UInt8) (s : Ms) : Eats s (sgM z g s) := by
  unfold sgM
  split
  · rename_i h; exact tl_eats (sgT_k h)
  · exact fail_eats z (by decide) s
theorem wdM_eats (z : Nat) (g : List UInt8) (s : Ms) : Eats s (wdM z g s) := by
  unfold wdM
  split
  · rename_i h; exact tl_eats (wdT_k h)
  · exact fail_eats z (by decide) s
theorem nmM_eats (z : Nat) (s : Ms) : Eats s (nmM z s).2 := by
  unfold nmM
  split
  · rename_i h; exact tl_eats (by rw [h]; decide)
  · exact fail_eats z (by decide) s
theorem vaM_fwd (z : Nat) (m : List Tk) (s : Ms) : Fwd s (vaM z m s).2 := by
  unfold vaM
  dsimp only
  have h1 : ∀ n, Fwd s ⟨s.l.drop n, s.er, s.wr⟩ := fun n => ⟨by show (s.l.drop n).length ≤ _; rw [List.length_drop]; omega, id⟩
  split
  · exact h1 _
  · rename_i he
    exact (h1 _).trans (fail_eats z he _).fwd
theorem arM_eats (z : Nat) (s : Ms) : Eats s (arM z s).2 := ((nmM_eats z s).then (sgM_eats z _ _).fwd).then (vaM_fwd z _ _)
theorem moreM_fwd {α : Type} (e : List UInt8) {P : Ms → α × Ms} (hP : ∀ s, Fwd s (P s).2) : ∀ (n : Nat) (s : Ms) (acc : List α), Fwd s (moreM e P n s acc).2
  | 0, s, _ => .refl s
  | n + 1, s, acc => by
    unfold moreM
    split
    · split
      · exact (hP s).trans ⟨tl_le _, id⟩
      · exact (hP s).trans (moreM_fwd e hP n _ _)
    · exact .refl s
theorem svM_eats {α : Type} (z : Nat) (b e : List UInt8) {P : Ms → α × Ms} (hP : ∀ s, Fwd s (P s).2) (s : Ms) : Eats s (svM z b e P s).2 := (sgM_eats z b s).then (moreM_fwd e hP _ _ _)
theorem soM_fwd {α : Type} (z : Nat) (b e : List UInt8) {P : Ms → α × Ms} (hP : ∀ s, Fwd s (P s).2) (s : Ms) : Fwd s (soM z b e P s).2 := by
  unfold soM
  split
  · exact (svM_eats z b e hP s).fwd
  · exact .refl s
theorem asM_fwd (z : Nat) (s : Ms) : Fwd s (asM z s).2 := soM_fwd z _ _ (fun s => (arM_eats z s).fwd) s
theorem diM_eats (z : Nat) (s : Ms) : Eats s (diM z s).2 := (nmM_eats z s).then (asM_fwd z _)
theorem dsM_fwd (z : Nat) : ∀ (n : Nat) (s : Ms) (acc : List DirT), Fwd s (dsM z n s acc).2
  | 0, s, _ => .refl s
  | n + 1, s, acc => by
    unfold dsM
    split
    · exact (Fwd.trans ⟨tl_le s, id⟩ (diM_eats z _).fwd).trans (dsM_fwd z n _ _)
    · exact .refl s
theorem dirM_fwd (z : Nat) (s : Ms) : Fwd s (dirM z s).2 := dsM_fwd z _ _ _

/-! ### arguments -/
set_option maxHeartbeats 4000000 in
set_option maxRecDepth 100000 in
theorem pArg_any {c : Cx} {k : Nat} {s : Ms} (w : World) (h : Pv c k s w) : Calls Tryz.prog 303 #[.pointer (some ⟨c.R, 0, none⟩)] w (RecAns ArgE c k w (arM c.z s)) := by
  have L0 := Lo.new h 55 #[.string ⟨#[]⟩, .int .i64 0, .string ⟨#[]⟩, .slice none 0 0, .slice none 0 0] #[.string ⟨#[]⟩, .int .i64 0, .string ⟨#[]⟩, .slice none 0 0, .slice none 0 0]
  have HL0 := Lib.hid L0
  have HC1 := pNm_any _ L0.p.1
  have HM := Lib.hid (show arM c.z s = (((nmM c.z s).1, (vlM c.z (sgM c.z [58] (nmM c.z s).2)).1), (vlM c.z (sgM c.z [58] (nmM c.z s).2)).2) from rfl)
  have HZ := Lib.hid (nmM_size h)
  generalize nmM c.z s = R1 at *
  generalize arM c.z s = RES at *
  obtain ⟨nm, s1⟩ := R1
  dsimp only at HC1 HM HZ
  clear L0 h
  go_enter Tryz.func303, Tryz.ntmps303
  go_wp2_with fail
  refine HC1.mono ?_
  rintro e w1 ⟨rfl, p1⟩
  have L1 := HL0.out.call p1
  have S1 := L1.1.set 0 (.string ⟨nm.toArray⟩)
  obtain ⟨b0, b1, b2, b3, b4, bf, bl⟩ := blk5 L1.1.h1
  have HC2 := pMust_any [58] _ S1.1.p.1
  have HS1 := Lib.hid S1.1
  clear p1 L1 S1 HC1 HL0
  go_wp2_with fail
  refine HC2.mono ?_
  rintro e w2 ⟨rfl, p2⟩
  have L2 := HS1.out.call p2
  have HL2 := Lib.hid L2.1
  have HVS := Lib.hid (vlM_small L2.1.p.1)
  have HC3 := pValue_any w2 L2.1.p.1
  clear p2 L2 HC2 HS1 b0 b1 b2 b3 b4 bf bl
  go_wp2_with fail
  refine HC3.mono ?_
  rintro e w3 ⟨kk, ss, an, ln, cn, ap, lp, cp, rfl, hR, p3⟩
  have L3 := HL2.out.call p3
  have hd := RdD.step (D' := Dn w w3) (w' := w3) (dn_of HL2.out) (fun _ _ _ => rfl) hR
  have T1 := L3.1.set 1 (.int .i64 kk)
  have T2 := T1.1.set 2 (.string ss)
  have T3 := T2.1.set 3 (.slice an ln cn)
  have T4 := T3.1.set 4 (.slice ap lp cp)
  have U0 := T4.1.fin 0 (.string ⟨nm.toArray⟩)
  have U1 := U0.1.fin 1 (.int .i64 kk)
  have U2 := U1.1.fin 2 (.string ss)
  have U3 := U2.1.fin 3 (.slice an ln cn)
  have U4 := U3.1.fin 4 (.slice ap lp cp)
  have HK := Lib.hid ((((((((T1.2.trans T2.2).trans T3.2).trans T4.2).trans U0.2).trans U1.2).trans U2.2).trans U3.2).trans U4.2)
  have HRD := Lib.hid hd
  have HU := Lib.hid U4.1
  obtain ⟨b0, b1, b2, b3, b4, bf, bl⟩ := blk5 L3.1.h1
  obtain ⟨a0, a1, a2, a3, a4, af, al⟩ := blk5 L3.1.h0
  obtain ⟨f0, f1, f2, f3, f4, -, -⟩ := blk5 U4.1.h0
  have HF := Lib.hid (And.intro f0 (And.intro f1 (And.intro f2 (And.intro f3 f4))))
  clear p3 L3 HC3 HL2 hR hd T1 T2 T3 T4 U0 U1 U2 U3 U4 f0 f1 f2 f3 f4
  go_wp2_with fail
  obtain ⟨f0, f1, f2, f3, f4⟩ := HF.out
  refine bodyPost_ret (v := .agg #[.string ⟨nm.toArray⟩, .int .i64 kk, .string ss, .slice an ln cn, .slice ap lp cp]) (by simp [results, Tryz.results303, go_sem, f0, f1, f2, f3, f4]) rfl ?_
  rw [HM.out]
  exact ⟨[.string ⟨nm.toArray⟩, .int .i64 kk, .string ss, .slice an ln cn, .slice ap lp cp], rfl, argOk.step dn_fin (fun _ _ _ => rfl) ⟨⟨HZ.out, HVS.out⟩, _, _, _, _, rfl, 13, HK.out.rd HRD.out⟩, HU.out.p⟩

end Go.Proofs.YtkfllppggjhhmaaGreatDoor
