/-
  The cursor: a type.
-/
import Derived.Test.YtkahnlgedacppaaGreatDoorMKa
import Derived.Deep.DeepCutAuto
import Derived.Test.YtkahnlgedacppaaGreatDoorMKq4
namespace Go.Proofs.YtkahnlgedacppaaGreatDoor
open Go.RowKit

def tyB : Obj := .cells #[.string ⟨#[]⟩, .string ⟨#[]⟩] 47
/-- The two orders in which the box of the type may be laid. -/
theorem type_a {w w1 : World} (hb : Below (w.alloc tyB).drew.heap.size (w.alloc tyB).drew w1) : Below w.heap.size w w1 ∧ w.heap.size + 1 ≤ w1.heap.size ∧ w1.heap[w.heap.size]? = some tyB := by
  have h1 : Below w.heap.size w (w.alloc tyB).drew := ((Below.refl _ w).alloc (Nat.le_refl _) _).drew
  have hs : (w.alloc tyB).drew.heap.size = w.heap.size + 1 := by show (w.alloc tyB).heap.size = _; simp
  have h0 : w1.heap[w.heap.size]? = some tyB := by
    rw [hb.block _ (by rw [hs]; omega)]
    exact heap_alloc_new w tyB
  exact ⟨h1.trans (hb.mono h1.size), by have := hb.size; omega, h0⟩
theorem type_b {w w1 : World} (hb : Below ((w.alloc tyB).alloc tyB).drew.heap.size ((w.alloc tyB).alloc tyB).drew w1) : (Below w.heap.size w w1 ∧ w.heap.size + 2 ≤ w1.heap.size ∧ w1.heap[w.heap.size]? = some tyB) ∧ (w1.cell? ⟨w.heap.size + 1, 0, none⟩ = some (.string ⟨#[]⟩) ∧ w1.cell? ⟨w.heap.size + 1, 1, none⟩ = some (.string ⟨#[]⟩)) ∧ (∀ j, w1.frozen? ⟨w.heap.size + 1, j, none⟩ = false) ∧ w1.heap[w.heap.size + 1]? = some tyB := by
  have h1 : Below w.heap.size w ((w.alloc tyB).alloc tyB).drew := (((Below.refl _ w).alloc (Nat.le_refl _) _).alloc (by simp) _).drew
  have hs : ((w.alloc tyB).alloc tyB).drew.heap.size = w.heap.size + 2 := by show ((w.alloc tyB).alloc tyB).heap.size = _; simp
  have hk : w1.heap[w.heap.size + 1]? = some tyB := by
    rw [hb.block _ (by rw [hs]; omega)]
    show ((w.alloc tyB).alloc tyB).heap[w.heap.size + 1]? = some tyB
    have := heap_alloc_new (w.alloc tyB) tyB
    rwa [show (w.alloc tyB).heap.size = w.heap.size + 1 by simp] at this
  have h0 : w1.heap[w.heap.size]? = some tyB := by
    rw [hb.block _ (by rw [hs]; omega)]
    show ((w.alloc tyB).alloc tyB).heap[w.heap.size]? = some tyB
    rw [Below.heap_alloc _ _ _ (by simp)]
    exact heap_alloc_new w tyB
  exact ⟨⟨h1.trans (hb.mono h1.size), by have := hb.size; omega, h0⟩, ⟨Lib.cell_of_heap hk 0, Lib.cell_of_heap hk 1⟩, fun j => by simp [World.frozen?, hk, tyB], hk⟩
theorem aw_blk {R n g : Nat} {a b : World} {o : Obj} (h : Aw R n a b) (hg : g < n) (hr : g ≠ R) (ho : a.heap[g]? = some o) : b.heap[g]? = some o := (h.block g hg hr).trans ho
theorem Pv.all {c : Cx} {k : Nat} {s : Ms} {w : World} (h : Pv c k s w) : ∀ W, Below w.heap.size w W → Pv c k s W := fun _ hb => h.below hb h.hN
theorem bel_set2 {w w1 : World} {b i j : Nat} (h : Below w.heap.size w w1) (hb : w.heap.size ≤ b) (u v : Value) : Below w.heap.size w ((w1.setCell ⟨b, i, none⟩ u).setCell ⟨b, j, none⟩ v) := (h.setCell (p := ⟨b, i, none⟩) hb u).setCell (p := ⟨b, j, none⟩) hb v

theorem two_set {W : World} {g : Nat} (h : W.heap[g]? = some tyB) (c0 c1 : Value) : ((W.setCell ⟨g, 0, none⟩ c0).setCell ⟨g, 1, none⟩ c1).heap[g]? = some (.cells #[c0, c1] 47 (0, 0)) := by
  rw [Lib.heap_setCell_same (Lib.heap_setCell_same h c0) c1]; rfl

/-- Behind the call of Type: the box of the type, the place, whether there is one. -/
def TyCut (w : World) (nm ws : ByteArray) (q : Nat) (ok : Bool) (v3 v4 v5 : Value) (wc : World) : Prop :=
  ∃ B, v3 = .pointer (some ⟨B, 0, none⟩) ∧ v4 = .int .i64 (q : Int) ∧ v5 = .bool ok ∧ w.heap.size + 1 ≤ B ∧ wc.heap[B]? = some (.cells #[.string nm, .string ws] 47 (0, 0)) ∧ wc.heap[w.heap.size]? = some tyB ∧ Below w.heap.size w wc
theorem tyCut_a {w w1 : World} (nm ws : ByteArray) (q : Nat) (ok : Bool) (h : Below w.heap.size w w1 ∧ w.heap.size + 1 ≤ w1.heap.size ∧ w1.heap[w.heap.size]? = some tyB) :
    TyCut w nm ws q ok (.pointer (some ⟨w1.heap.size, 0, none⟩)) (.int .i64 (q : Int)) (.bool ok) (w1.alloc (.cells #[.string nm, .string ws] 47)) :=
  ⟨_, rfl, rfl, rfl, h.2.1, heap_alloc_new _ _, (Below.heap_alloc _ _ _ (by have := h.2.1; omega)).trans h.2.2, h.1.alloc h.1.size _⟩
theorem tyCut_b {w w1 : World} (nm ws : ByteArray) (q : Nat) (ok : Bool) (h : Below w.heap.size w w1 ∧ w.heap.size + 2 ≤ w1.heap.size ∧ w1.heap[w.heap.size]? = some tyB) (hk : w1.heap[w.heap.size + 1]? = some tyB) :
    TyCut w nm ws q ok (.pointer (some ⟨w.heap.size + 1, 0, none⟩)) (.int .i64 (q : Int)) (.bool ok) ((w1.setCell ⟨w.heap.size + 1, 0, none⟩ (.string nm)).setCell ⟨w.heap.size + 1, 1, none⟩ (.string ws)) :=
  ⟨_, rfl, rfl, rfl, Nat.le_refl _, two_set hk _ _, by rw [Below.heap_setCell _ _ _ _ (show w.heap.size ≠ w.heap.size + 1 by omega), Below.heap_setCell _ _ _ _ (show w.heap.size ≠ w.heap.size + 1 by omega)]; exact h.2.2, bel_set2 h.1 (by omega) _ _⟩

set_option maxHeartbeats 4000000 in
set_option maxRecDepth 100000 in
theorem pType_any {c : Cx} {k : Nat} {s : Ms} (w : World) (h : Pv c k s w) : Calls Tryz.prog 186 #[.pointer (some ⟨c.R, 0, none⟩)] w fun e w' => e = .returned (.agg #[.string ⟨(tyM c.z s).1.1.toArray⟩, .string ⟨(tyM c.z s).1.2.toArray⟩]) ∧ Pw c k (tyM c.z s).2 w w' := by
  have hA := h.alloc tyB
  obtain ⟨m, p, hbk, hp, hm, hl⟩ := hA.bk
  obtain ⟨c0, c1, -, -, -, -, -⟩ := prCell hbk
  have HTa := vtype_at _ hA.drew hp hm hl
  have HTb := vtype_at _ (hA.alloc tyB).drew hp hm hl
  have hRlt := h.lt
  have HH := Lib.hid h
  have HALL := Lib.hid h.all
  have HBK := Lib.hid ((Below.heap_alloc w tyB _ h.lt).symm.trans hbk)
  have HP := Lib.hid (And.intro hp (And.intro hm hl))
  have hN := h.hN
  have hRN := h.hR
  have hBR : w.heap.size ≠ c.R := by omega
  cases ho : typeP (s.l.map strip) with
  | none =>
    have HM := Lib.hid (show tyM c.z s = (([], []), failM c.z 2 s) by unfold tyM; rw [ho])
    rw [ho] at HTa HTb
    clear ho hbk hA h hl hp hm
    unfold tyB at HTa HTb c0 c1
    go_enter Tryz.func186, Tryz.ntmps186
    go_upto_region 1 with fail
    go_cut [3, 4, 5] (fun v3 v4 v5 wc => TyCut w ⟨#[]⟩ ⟨#[]⟩ p false v3 v4 v5 wc)
    case first =>
      go_region_with ((go_at_call 232); (first | ((with_reducible refine HTa.mono ?_); rintro e w1 ⟨b1, rfl⟩; have b2 := type_a b1) | ((with_reducible refine HTb.mono ?_); rintro e w1 ⟨b1, rfl⟩; obtain ⟨b2, ⟨g0, g1⟩, gf, gk⟩ := type_b b1)))
      all_goals
        go_wp2_with fail
        go_meet
        case rel => first | exact tyCut_a _ _ _ _ b2 | exact tyCut_b _ _ _ _ b2 gk
    case rest =>
      obtain ⟨B, rfl, rfl, rfl, hB, hblk, hbox, hbel⟩ := hcut
      have HB := Lib.hid hbel
      have HX := Lib.hid hbox
      have HFL := pFail_any 2 wc (HALL.out _ hbel)
      have hs := hbel.size
      clear HTa HTb hblk hbel hbox
      go_wp2_with fail
      refine HFL.mono ?_
      rintro e w2 ⟨rfl, hp2⟩
      have HPX := Lib.hid (((Pw.refl HH.out).below HB.out).trans hp2)
      have h5 := aw_blk hp2.2 (Array.getElem?_eq_some_iff.1 HX.out).1 hBR HX.out
      obtain ⟨q0, q1, qf, ql⟩ := blk2 h5
      clear hp2 h5 HFL
      go_wp2_with fail
      refine bodyPost_ret (v := .agg #[.string ⟨#[]⟩, .string ⟨#[]⟩]) (by simp [results, Tryz.results186, go_sem, q0, q1]) rfl ?_
      rw [HM.out]
      exact ⟨rfl, (HPX.out.set HH.out.hN (q := ⟨w.heap.size, 0, none⟩) (Nat.le_refl _) _).set HH.out.hN (q := ⟨w.heap.size, 1, none⟩) (Nat.le_refl _) _⟩
  | some o =>
    obtain ⟨nm, ws, r⟩ := o
    have hrl := type_le ho
    rw [List.length_map, ← hl, take_drop_len hm] at hrl
    have HM := Lib.hid (show tyM c.z s = ((nm, ws), ⟨s.l.drop (m - r.length - p), s.er, s.wr⟩) by
      unfold tyM; rw [ho]
      show ((nm, ws), (⟨s.l.drop (s.l.length - r.length), s.er, s.wr⟩ : Ms)) = _
      rw [show s.l.length - r.length = m - r.length - p by rw [← hl, take_drop_len hm]; omega])
    rw [ho] at HTa HTb
    have HR := Lib.hid hrl
    clear ho hbk hA h hl hp hm hrl
    unfold tyB at HTa HTb c0 c1
    go_enter Tryz.func186, Tryz.ntmps186
    go_upto_region 1 with fail
    go_cut [3, 4, 5] (fun v3 v4 v5 wc => TyCut w ⟨nm.toArray⟩ ⟨ws.toArray⟩ (m - r.length) true v3 v4 v5 wc)
    case first =>
      go_region_with ((go_at_call 232); (first | ((with_reducible refine HTa.mono ?_); rintro e w1 ⟨b1, rfl⟩; have b2 := type_a b1) | ((with_reducible refine HTb.mono ?_); rintro e w1 ⟨b1, rfl⟩; obtain ⟨b2, ⟨g0, g1⟩, gf, gk⟩ := type_b b1)))
      all_goals
        go_wp2_with fail
        go_meet
        case rel => first | exact tyCut_a _ _ _ _ b2 | exact tyCut_b _ _ _ _ b2 gk
    case rest =>
      obtain ⟨B, rfl, rfl, rfl, hB, hblk, hbox, hbel⟩ := hcut
      have hk1 := (hbel.block _ hRlt).trans HBK.out
      have hgo := (HALL.out wc hbel).goTo (q := m - r.length) hk1 HP.out.2.1 HP.out.2.2 (by have := HR.out; have := HP.out.1; omega) (by omega)
      have HG := Lib.hid ((((Pw.refl HH.out).below hbel).trans hgo).set hN (q := ⟨w.heap.size, 0, none⟩) (Nat.le_refl _) (.string ⟨nm.toArray⟩) |>.set hN (q := ⟨w.heap.size, 1, none⟩) (Nat.le_refl _) (.string ⟨ws.toArray⟩))
      obtain ⟨-, k1, -, -, -, kf, -⟩ := prCell hk1
      obtain ⟨q0, q1, qf, ql⟩ := blk2 hbox
      obtain ⟨b0, b1, bf, bl⟩ := blk2 hblk
      have KK := two_set ((Below.heap_setCell wc ⟨c.R, 1, none⟩ (.int .i64 ((m - r.length : Nat) : Int)) _ hBR).trans hbox) (.string ⟨nm.toArray⟩) (.string ⟨ws.toArray⟩)
      obtain ⟨x0, x1, -, -⟩ := blk2 KK
      have KA := Lib.hid x0
      have KB := Lib.hid x1
      have hBc : B ≠ c.R := by omega
      have hBw : B ≠ w.heap.size := by omega
      clear HTa HTb hgo hk1 hbox hblk KK x0 x1 hbel
      go_wp2_with fail
      have ka := KA.out
      have kb := KB.out
      refine bodyPost_ret (v := .agg #[.string ⟨nm.toArray⟩, .string ⟨ws.toArray⟩]) (by simp [results, Tryz.results186, go_sem, ka, kb]) rfl ?_
      rw [HM.out]
      exact ⟨rfl, HG.out⟩

end Go.Proofs.YtkahnlgedacppaaGreatDoor
/-
  The cursor: where a variable begins.
-/
namespace Go.Proofs.YtkahnlgedacppaaGreatDoor
open Go.RowKit

theorem notVar_sg (t : Tk) : isSg [36] t = !notVar t := by unfold notVar; rw [Bool.not_not]

set_option maxHeartbeats 2000000 in
set_option maxRecDepth 100000 in
theorem begVar_any (t : Tk) (w : World) : Calls Tryz.prog 236 #[.agg #[.int .i64 t.k, .string ⟨t.s.toArray⟩, .int .i64 t.at_]] w fun e w' => e = .returned (.bool (isSg [36] t)) ∧ Below w.heap.size w w' := by
  have hb0 : Below w.heap.size w (w.alloc (.cells #[.int .i64 t.k, .string ⟨t.s.toArray⟩, .int .i64 t.at_] 197)) := (Below.refl _ w).alloc (Nat.le_refl _) _
  have HT := dSign_any t [36] (w.alloc (.cells #[.int .i64 t.k, .string ⟨t.s.toArray⟩, .int .i64 t.at_] 197))
  go_enter Tryz.func236, Tryz.ntmps236
  go_wp2_with fail
  refine HT.mono ?_
  rintro e w2 ⟨rfl, hb2⟩
  go_wp2_with fail
  go_ret
  exact ⟨rfl, hb0.trans (hb2.mono hb0.size)⟩

/-- The tokens that lie from ⟨g, off⟩ on. -/
def TokRow (w : World) (g off : Nat) (l : List Tk) : Prop := ∀ i t, l[i]? = some t → w.cell? ⟨g, off + i * 3, none⟩ = some (.int .i64 t.k) ∧ w.cell? ⟨g, off + i * 3 + 1, none⟩ = some (.string ⟨t.s.toArray⟩) ∧ w.cell? ⟨g, off + i * 3 + 2, none⟩ = some (.int .i64 t.at_)
theorem TokRow.below {w w' : World} {n g off : Nat} {l : List Tk} (h : TokRow w g off l) (hb : Below n w w') (hg : g < n) : TokRow w' g off l := fun i t ht => by
  have c : ∀ o, w'.cell? ⟨g, o, none⟩ = w.cell? ⟨g, o, none⟩ := fun o => World.cell?_of_block (a := ⟨g, o, none⟩) (hb.block g hg)
  obtain ⟨h0, h1, h2⟩ := h i t ht
  exact ⟨(c _).trans h0, (c _).trans h1, (c _).trans h2⟩
/-- Where the first variable begins. -/
def idxM (l : List Tk) : Int := if (l.takeWhile notVar).length < l.length then ((l.takeWhile notVar).length : Int) else -1
theorem tw_at {l : List Tk} {i : Nat} (h : i ≤ (l.takeWhile notVar).length) {t : Tk} (ht : l[i]? = some t) : (notVar t = true → i + 1 ≤ (l.takeWhile notVar).length) ∧ (notVar t = false → (l.takeWhile notVar).length = i) := by
  induction l generalizing i with
  | nil => simp at ht
  | cons a r ih =>
    cases ha : notVar a with
    | false =>
      have h0 : ((a :: r).takeWhile notVar).length = 0 := by rw [List.takeWhile_cons, if_neg (by rw [ha]; decide)]; rfl
      rw [h0] at h ⊢
      obtain rfl : i = 0 := by omega
      simp at ht
      subst ht
      exact ⟨fun e => absurd (ha.symm.trans e) (by decide), fun _ => rfl⟩
    | true =>
      have h0 : ((a :: r).takeWhile notVar).length = (r.takeWhile notVar).length + 1 := by rw [List.takeWhile_cons, if_pos ha]; rfl
      rw [h0] at h ⊢
      cases i with
      | zero =>
        simp at ht
        subst ht
        exact ⟨fun _ => by omega, fun e => absurd (ha.symm.trans e) (by decide)⟩
      | succ i =>
        have := ih (i := i) (by omega) (by simpa using ht)
        exact ⟨fun e => by have := this.1 e; omega, fun e => by have := this.2 e; omega⟩

set_option maxHeartbeats 2000000 in
set_option maxRecDepth 100000 in
theorem indexFunc_any {g off cp : Nat} {ra : Option Addr} (l : List Tk) (w : World) (hl : l.length ≤ 8000) (hra : 0 < l.length → ra = some ⟨g, off, none⟩) (hg : 0 < l.length → g < w.heap.size) (hrow : TokRow w g off l) (hcp : l.length ≤ cp) :
    Calls Tryz.prog 235 #[.slice ra l.length cp, .func (.func 236) #[] #[]] w fun e w' => e = .returned (.int .i64 (idxM l)) ∧ Below w.heap.size w w' := by
  have HROW := Lib.hid hrow
  have HLE := Lib.hid (show (l.takeWhile notVar).length ≤ l.length from (List.takeWhile_prefix _).length_le)
  clear hrow
  go_enter Tryz.func235, Tryz.ntmps235
  go_wp2_with fail
  go_loopg [5, 8] l.length (fun j _ v8 wr => ∃ i : Nat, v8 = .int .i64 (i : Int) ∧ i ≤ l.length ∧ j = l.length - i ∧ i ≤ (l.takeWhile notVar).length ∧ Below w.heap.size w wr)
  case atStart => exact ⟨0, rfl, Nat.zero_le _, rfl, Nat.zero_le _, Below.refl _ _⟩
  case round =>
    obtain ⟨i, rfl, hi, hj, hit, hb⟩ := hrel
    have HB := Lib.hid hb
    have HIT := Lib.hid hit
    have hw : IntKind.i64.wrap ((i : Int) + 1) = (i : Int) + 1 := IntWalk.i64_in _ (by omega)
    by_cases hlt : i < l.length
    · have hd : decide ((i : Int) < (l.length : Int)) = true := decide_eq_true (by omega)
      have hd2 : decide (i < l.length) = true := decide_eq_true hlt
      have e1 := hra (by omega)
      subst e1
      have ht : l[i]? = some l[i] := List.getElem?_eq_getElem hlt
      obtain ⟨c0, c1, c2⟩ := (HROW.out.below hb (hg (by omega))) i _ ht
      have HT := begVar_any l[i] wr
      have HTW := Lib.hid (tw_at hit ht)
      generalize l[i] = t at *
      have hicp : i < cp := by omega
      cases hv : notVar t with
      | true =>
        rw [notVar_sg t, hv] at HT
        have HV := Lib.hid (HTW.out.1 hv)
        clear hit hb ht hv
        go_wp2_with fail
        refine HT.mono ?_
        rintro e w2 ⟨rfl, hb2⟩
        have HB2 := Lib.hid (HB.out.trans (hb2.mono HB.out.size))
        clear hb2
        go_wp2_with fail
        go_roundg (l.length - (i + 1))
        case measure => omega
        case rel => exact ⟨i + 1, by simp, by omega, rfl, HV.out, HB2.out⟩
      | false =>
        rw [notVar_sg t, hv] at HT
        have HI := Lib.hid (show idxM l = (i : Int) by
          have := HTW.out.2 hv
          unfold idxM
          rw [if_pos (by omega), this])
        clear hit hb ht hv
        go_wp2_with fail
        refine HT.mono ?_
        rintro e w2 ⟨rfl, hb2⟩
        have HB2 := Lib.hid (HB.out.trans (hb2.mono HB.out.size))
        clear hb2
        go_wp2_with fail
        go_ret
        exact ⟨by rw [HI.out]; rfl, HB2.out⟩
    · have hd : decide ((i : Int) < (l.length : Int)) = false := decide_eq_false (by omega)
      have hd2 : decide (i < l.length) = false := decide_eq_false hlt
      have HI := Lib.hid (show idxM l = -1 by unfold idxM; rw [if_neg (by have := HLE.out; omega)])
      clear hit hb
      go_wp2_with fail
      go_ret
      exact ⟨by rw [HI.out]; rfl, HB.out⟩

end Go.Proofs.YtkahnlgedacppaaGreatDoor
/-
  The cursor: a default, or none.
-/
namespace Go.Proofs.YtkahnlgedacppaaGreatDoor
open Go.RowKit

theorem tw_take (l : List Tk) : l.takeWhile notVar = l.take (l.takeWhile notVar).length := (List.prefix_iff_eq_take.1 (List.takeWhile_prefix _))

theorem take_drop_take (ts : List Tk) {m p n : Nat} (h : n ≤ m - p) : (ts.take (p + n)).drop p = ((ts.take m).drop p).take n := by
  rw [List.drop_take, List.drop_take, List.take_take, show p + n - p = n by omega, Nat.min_eq_left h]

/-- What is ahead lies in a row. -/
theorem Pv.rest {c : Cx} {k : Nat} {s : Ms} {w : World} (h : Pv c k s w) {m p : Nat} (hp : p ≤ m) (hm : m ≤ c.ts.length) (hl : (c.ts.take m).drop p = s.l) :
    ∃ g, (0 < s.l.length → (if c.cap = p then c.a else c.a.map (·.add (p * 3))) = some ⟨g, p * 3, none⟩ ∧ g < c.N) ∧ TokRow w g (p * 3) s.l := by
  have hlen : s.l.length = m - p := by rw [← hl, take_drop_len hm]
  by_cases h0 : 0 < s.l.length
  · obtain ⟨g, e, _, _, hg, hc⟩ := h.tk (by omega)
    refine ⟨g, fun _ => ⟨?_, hg⟩, fun i t ht => ?_⟩
    · have := h.hc
      rw [if_neg (by omega), e]
      simp [Addr.add]
      try omega
    · have hi := (List.getElem?_eq_some_iff.1 ht).1
      have e1 : c.ts[p + i]? = some t := by
        rw [← hl, List.getElem?_drop, List.getElem?_take] at ht
        rw [if_pos (by omega)] at ht
        exact ht
      obtain ⟨k0, k1, k2⟩ := tkCells_at c.ts (p + i) t e1
      rw [show p * 3 + i * 3 = (p + i) * 3 by omega]
      exact ⟨hc _ _ k0, hc _ _ k1, hc _ _ k2⟩
  · refine ⟨0, fun h => absurd h h0, fun i t ht => ?_⟩
    have := (List.getElem?_eq_some_iff.1 ht).1
    omega


theorem ra_addr {c : Cx} {k : Nat} {s : Ms} {w : World} (h : Pv c k s w) (p : Nat) : (if c.cap = p then c.a else c.a.map (·.add (p * 3))) = none ∨ ∃ g o, (if c.cap = p then c.a else c.a.map (·.add (p * 3))) = some ⟨g, o, none⟩ := by
  have ha : c.a = none ∨ ∃ g, c.a = some ⟨g, 0, none⟩ := by
    by_cases h0 : 0 < c.ts.length
    · obtain ⟨g, e, _⟩ := h.tk h0
      exact .inr ⟨g, e⟩
    · exact h.tn (by omega)
  split
  · exact h.addr
  · rcases ha with e | ⟨g, e⟩
    · rw [e]; exact .inl rfl
    · rw [e]
      refine .inr ⟨g, p * 3, ?_⟩
      simp [Addr.add]
      try omega

set_option maxHeartbeats 8000000 in
set_option maxRecDepth 100000 in
theorem cDefault_any {c : Cx} {k : Nat} {s : Ms} (w : World) (h : Pv c k s w) : Calls Tryz.prog 188 #[.pointer (some ⟨c.R, 0, none⟩)] w (ValueAns c k w (dfltM c.z s)) := by
  have hA := h.alloc vzB
  have HT := pTakeSign_any [61] (w.alloc vzB) hA
  have hbA : Below w.heap.size w (w.alloc vzB) := (Below.refl _ w).alloc (Nat.le_refl _) _
  have hRlt := h.lt
  have HHw := Lib.hid h
  have HX0 := Lib.hid (show (w.alloc vzB).heap[w.heap.size]? = some vzB from heap_alloc_new w vzB)
  have hs0 : (w.alloc vzB).heap.size = w.heap.size + 1 := by simp
  have HBX := Lib.hid (show ∀ s2 w1, Pw c k s2 (w.alloc vzB) w1 → Pw c k s2 w w1 ∧ w1.heap[w.heap.size]? = some vzB from fun s2 w1 hp =>
    ⟨⟨hp.1, (Aw.of hbA).trans (hp.2.mono hbA.size)⟩, (hp.2.block _ (by omega) (by have := h.hR; have := h.hN; omega)).trans HX0.out⟩)
  have HDM := Lib.hid (show dfltM c.z s = if isSg [61] (hdT s.l) then coM c.z (tlM s) else (vz, s) from rfl)
  clear hA hbA hs0
  cases hi : isSg [61] (hdT s.l) with
  | false =>
    rw [hi] at HT HDM
    simp only [reduceIte, Bool.false_eq_true] at HT HDM
    clear hi h
    unfold vzB at HT
    go_enter Tryz.func188, Tryz.ntmps188
    go_wp2_with fail
    refine HT.mono ?_
    rintro e w1 ⟨rfl, hp1⟩
    obtain ⟨hp, hb⟩ := HBX.out s w1 hp1
    have hbx : Bx w1 w.heap.size := ⟨Lib.cell_of_heap hb 0, Lib.cell_of_heap hb 1, Lib.cell_of_heap hb 2, Lib.cell_of_heap hb 3, fun j => by simp [World.frozen?, hb, vzB]⟩
    have HF2 := Lib.hid (bx_four hbx (.int .i64 0) (.string ⟨#[]⟩) (.slice none 0 0) (.slice none 0 0))
    have hl1 := (Array.getElem?_eq_some_iff.1 hb).1
    have HP := Lib.hid hp
    obtain ⟨r0, r1, r2, r3, rf⟩ := hbx
    clear hp1 hp hb HT HBX
    go_wp2_with fail
    obtain ⟨k0, k1, k2, k3⟩ := HF2.out
    refine bodyPost_ret (v := .agg #[.int .i64 0, .string ⟨#[]⟩, .slice none 0 0, .slice none 0 0]) (by simp [results, Tryz.results188, go_sem, k0, k1, k2, k3]) rfl ?_
    rw [HDM.out]
    exact ⟨_, _, _, _, _, _, _, _, rfl, rd_leaf _ _ 12 0 ⟨#[]⟩ (Nat.zero_le _), HP.out.four HHw.out.hN _ _ _ _⟩
  | true =>
    rw [hi] at HT HDM
    simp only [reduceIte] at HT HDM
    clear hi
    have hcap := h.hc
    have hs6 := h.hs
    clear h
    unfold vzB at HT
    go_enter Tryz.func188, Tryz.ntmps188
    go_wp2_with fail
    refine HT.mono ?_
    rintro e w1 ⟨rfl, hp1⟩
    obtain ⟨hpw, hb1⟩ := HBX.out (tlM s) w1 hp1
    clear hp1 HT HBX HX0
    generalize tlM s = s1 at *
    have hA := hpw.1
    obtain ⟨m, p, hbk, hp, hm, hl⟩ := hA.bk
    obtain ⟨c0, c1, -, -, -, -, hRl⟩ := prCell hbk
    obtain ⟨g, hra, hrow⟩ := hA.rest hp hm hl
    have hlen : s1.l.length = m - p := by rw [← hl, take_drop_len hm]
    have HSL := slice_from 151 Tryz.underlying151 c.a m c.cap p hp
    have HIX := fun W (hb : Below w1.heap.size w1 W) => indexFunc_any (cp := c.cap - p) s1.l W (by omega) (fun h0 => (hra h0).1) (fun h0 => by have := (hra h0).2; have := hA.hN; have := hb.size; omega) (by
      by_cases h0 : 0 < s1.l.length
      · exact hrow.below hb (by have := (hra h0).2; have := hA.hN; omega)
      · intro i t ht
        have := (List.getElem?_eq_some_iff.1 ht).1
        omega) (by omega)
    rw [hlen] at HIX
    have hq : (s1.l.takeWhile notVar).length ≤ s1.l.length := (List.takeWhile_prefix _).length_le
    have HQ : (c.ts.take (p + (s1.l.takeWhile notVar).length)).drop p = s1.l.takeWhile notVar := by
      rw [take_drop_take c.ts (m := m) (by omega), hl]
      exact (tw_take s1.l).symm
    have HM := Lib.hid (show coM c.z s1 = vaM c.z ((c.ts.take (p + (s1.l.takeWhile notVar).length)).drop p) s1 by rw [HQ]; rfl)
    have HI := Lib.hid (show idxM s1.l = if (s1.l.takeWhile notVar).length < m - p then (((s1.l.takeWhile notVar).length : Nat) : Int) else -1 by unfold idxM; rw [hlen])
    rw [hlen] at hq
    generalize (s1.l.takeWhile notVar).length = n at *
    generalize idxM s1.l = ix at *
    have HPW := Lib.hid hpw
    have HBK := Lib.hid hbk
    have HPM := Lib.hid (And.intro hp (And.intro hm hl))
    have HSA := slice_all 151 Tryz.underlying151 _ (ra_addr hA p) (m - p) (c.cap - p) n (by omega)
    have HBX := Lib.hid hb1
    have HIH := Lib.hid HIX
    have HAM0 := Lib.hid (fun (W : World) (hb : Below w1.heap.size w1 W) => pAmong_any (q := p + n) (cap := c.cap - p) W (hA.below hb hA.hN) ((hb.block _ hA.lt).trans hbk) (by omega) (by omega) hm hl (by omega))
    have hpc : p ≤ c.cap := by omega
    have hnc : n ≤ c.cap - p := by omega
    clear hA hbk hl hrow hra hlen HQ HIX hpw hb1
    generalize (if c.cap = p then c.a else c.a.map (·.add (p * 3))) = ra at *
    go_upto_region 3 with fail
    go_quiet (fail)
    rename_i nq
    have hbq : Below w1.heap.size w1 (w1.drewN nq) := below_drewN (Below.refl _ _) _
    have HT := HIH.out _ hbq
    clear c0 c1 HSL
    go_wp2_with fail
    refine HT.mono ?_
    rintro e w2 ⟨rfl, hb2⟩
    have hb3 := hbq.trans (hb2.mono hbq.size)
    have HB3 := Lib.hid hb3
    clear HT hb2 hbq
    go_upto_if 21 with fail
    go_cut [4] (fun v4 wc => v4 = .int .i64 (n : Int) ∧ w2 = wc)
    case first =>
      by_cases hn : n < m - p
      · have e1 : ix = (n : Int) := by rw [HI.out, if_pos hn]
        subst e1
        have hd : decide ((n : Int) < 0) = false := decide_eq_false (by omega)
        clear hb3
        go_wp2_with fail
        go_meet
        case rel => exact ⟨rfl, rfl⟩
      · have e1 : ix = -1 := by rw [HI.out, if_neg hn]
        subst e1
        have e2 : m - p = n := by omega
        have E2 := Lib.hid (show Value.int .i64 ((m - p : Nat) : Int) = .int .i64 (n : Int) by rw [e2])
        clear e2
        clear hb3
        go_wp2_with fail
        go_meet
        case rel => exact ⟨E2.out, rfl⟩
    case rest =>
      obtain ⟨rfl, rfl⟩ := hcut
      have HAM := HAM0.out w2 hb3
      rw [Nat.add_sub_cancel_left] at HAM
      have hbw : Pw c k s1 w w2 := HPW.out.below hb3
      have hbx2 : w2.heap[w.heap.size]? = some vzB := (hb3.block _ (Array.getElem?_eq_some_iff.1 HBX.out).1).trans HBX.out
      have HW := Lib.hid hbw
      have HX2 := Lib.hid hbx2
      generalize vaM c.z ((c.ts.take (p + n)).drop p) s1 = RV at *
      obtain ⟨r, s5⟩ := RV
      clear hb3 hbw hbx2 HB3 HAM0
      go_wp2_with fail
      refine HAM.mono ?_
      rintro e w5 ⟨kk, ss, an, ln, cn, ap, lp, cp, rfl, hR, p5⟩
      obtain ⟨⟨r0, r1, r2, r3, rf⟩, hX⟩ := box_four HHw.out HW.out HX2.out p5 hR
      have HX := Lib.hid hX
      have HF2 := Lib.hid (bx_four (⟨r0, r1, r2, r3, rf⟩ : Bx w5 w.heap.size) (.int .i64 kk) (.string ss) (.slice an ln cn) (.slice ap lp cp))
      clear hX hR p5 HAM
      go_wp2_with fail
      obtain ⟨k0, k1, k2, k3⟩ := HF2.out
      refine bodyPost_ret (v := .agg #[.int .i64 kk, .string ss, .slice an ln cn, .slice ap lp cp]) (by simp [results, Tryz.results188, go_sem, k0, k1, k2, k3]) rfl ?_
      rw [HDM.out, HM.out]
      exact HX.out

end Go.Proofs.YtkahnlgedacppaaGreatDoor
/-
  The cursor: made for a text; what went wrong.
-/
namespace Go.Proofs.YtkahnlgedacppaaGreatDoor
open Go.RowKit

def tokSmall (ts : List Tk) : Bool := ts.all fun t => decide (t.s.length ≤ 1000000)
theorem tk_of {w : World} {B : Nat} {T : TypeId} {v : Value} {ts : List Tk} (h : w.ownsRow B T 3 v ts.length (tkCells ts)) : ∃ a cap, v = .slice a ts.length cap ∧ ts.length ≤ cap ∧ TkAt w a ts ∧ (a = none ∨ ∃ g, a = some ⟨g, 0, none⟩) := by
  obtain ⟨a, cap, e, hc, ht, _⟩ := tkAt_of h
  refine ⟨a, cap, e, hc, ht, ?_⟩
  rcases h.2 with ⟨hv, _⟩ | ⟨g, cap', cur, hv, _⟩
  · rw [hv] at e; injection e with e; exact .inl e.symm
  · rw [hv] at e; injection e with e; exact .inr ⟨g, e.symm⟩

/-- What New answers: the cursor in new memory; or none, the place, the error. -/
def NewIs (w : World) (z : Nat) (r : List Tk × Nat × Nat) (e : Ending) (w' : World) : Prop :=
  Below w.heap.size w w' ∧ if r.2.2 = 0 then ∃ a cap B, e = .returned (.tuple #[.pointer (some ⟨B, 0, none⟩), .int .i64 0, .int .i64 0]) ∧ w.heap.size ≤ B ∧ w'.heap[B]? = some (.cells #[.slice a r.1.length cap, .int .i64 0, .int .i64 (z : Int), .int .i64 0, .int .i64 0] 155 (0, 0)) ∧ r.1.length ≤ cap ∧ TkAt w' a r.1 ∧ (a = none ∨ ∃ g, a = some ⟨g, 0, none⟩) ∧ (0 < r.1.length → ∀ g o, a = some ⟨g, o, none⟩ → g ≠ B)
  else e = .returned (.tuple #[.pointer none, .int .i64 (r.2.1 : Int), .int .i64 (r.2.2 : Int)])

set_option maxHeartbeats 4000000 in
set_option maxRecDepth 100000 in
theorem cNew_any (s : ByteArray) (w : World) (hs : s.size ≤ 1000000000) : Calls Tryz.prog 39 #[.string s] w (NewIs w s.size (lexP s.data.toList)) := by
  have HLX := lexAll_any s w hs
  generalize lexP s.data.toList = LR at *
  obtain ⟨ts, at_, er⟩ := LR
  unfold NewIs
  dsimp only
  by_cases he : er = 0
  · subst he
    go_enter Tryz.func39, Tryz.ntmps39
    go_wp2_with fail
    refine HLX.mono ?_
    rintro e w1 ⟨v, rfl, hown, hb1⟩
    dsimp only at hown
    obtain ⟨a, cap, rfl, hc, ht, ha⟩ := tk_of hown
    have HX := Lib.hid (And.intro hc (And.intro ha ht))
    have HB := Lib.hid hb1
    clear hown hb1 HLX hc ht ha
    go_wp2_with fail
    refine bodyPost_ret (v := .tuple #[.pointer (some ⟨w1.heap.size, 0, none⟩), .int .i64 0, .int .i64 0]) (by simp [results, Tryz.results39, go_sem]) rfl ?_
    refine ⟨HB.out.alloc HB.out.size _, ?_⟩
    have hA : ∀ g, g < w1.heap.size → ∀ o, (w1.alloc (.cells #[.slice a ts.length cap, .int .i64 0, .int .i64 (s.size : Int), .int .i64 0, .int .i64 0] 155 (0, 0))).cell? ⟨g, o, none⟩ = w1.cell? ⟨g, o, none⟩ := fun g hg o => World.cell?_of_block (a := ⟨g, o, none⟩) (Below.heap_alloc _ _ _ hg)
    refine ⟨a, cap, w1.heap.size, rfl, HB.out.size, heap_alloc_new _ _, HX.out.1, fun h0 => ?_, HX.out.2.1, fun h0 g o eg => ?_⟩
    · obtain ⟨g, e, hcell⟩ := HX.out.2.2 h0
      refine ⟨g, e, fun j u hj => ?_⟩
      have h1 := hcell j u hj
      exact (hA g (cell_lt h1) j).trans h1
    · obtain ⟨g', e, hcell⟩ := HX.out.2.2 h0
      obtain ⟨u, hu⟩ := tkCells_first h0
      have h1 := cell_lt (hcell 0 u hu)
      rw [e] at eg
      injection eg with eg
      injection eg with eg _ _
      omega
  · have hne : ((er : Int) != 0) = true := by simp; omega
    simp only [if_neg he]
    go_enter Tryz.func39, Tryz.ntmps39
    go_wp2_with fail
    refine HLX.mono ?_
    rintro e w1 ⟨v, rfl, hown, hb1⟩
    dsimp only at hown
    obtain ⟨a, cap, rfl, hc, ht, ha⟩ := tk_of hown
    have HB := Lib.hid hb1
    clear hown hb1 HLX hc ht ha
    go_wp2_with fail
    refine bodyPost_ret (v := .tuple #[.pointer none, .int .i64 (at_ : Int), .int .i64 (er : Int)]) (by simp [results, Tryz.results39, go_sem]) rfl ?_
    exact ⟨HB.out, rfl⟩

set_option maxHeartbeats 2000000 in
set_option maxRecDepth 100000 in
theorem cWrong_at {R : Nat} {v0 v1 v2 : Value} {er wr : Int} {T : TypeId} (w : World) (hbk : w.heap[R]? = some (.cells #[v0, v1, v2, .int .i64 er, .int .i64 wr] T (0, 0))) : Calls Tryz.prog 42 #[.pointer (some ⟨R, 0, none⟩)] w fun e w' => e = .returned (.tuple #[.int .i64 wr, .int .i64 er]) ∧ SameW w w' := by
  have c3 := Lib.cell_of_heap hbk 3
  have c4 := Lib.cell_of_heap hbk 4
  have hRl := (Array.getElem?_eq_some_iff.1 hbk).1
  clear hbk
  go_enter Tryz.func42, Tryz.ntmps42
  go_upto_region 1 with fail
  go_quiet (fail)
  go_wp2_with fail
  refine bodyPost_ret (v := .tuple #[.int .i64 wr, .int .i64 er]) (by simp [results, Tryz.results42, go_sem]) rfl ?_
  exact ⟨rfl, rfl, rfl, rfl, rfl⟩
/-- A holder that is laid behind the cursor. -/
theorem pv_start {W : World} {a : Option Addr} {cap : Nat} {ts : List Tk} {z B : Nat} (q : Nat → Obj) (N0 : Nat) (J : World → Prop) (hJ : ∀ w w' : World, (∀ b, b < N0 → w'.heap[b]? = w.heap[b]?) → J w → J w') (hj : J W) (hN0 : N0 ≤ B) (T : Tk → Bool) (hT : ∀ t ∈ ts, T t = true) (hb : W.heap[B]? = some (.cells #[.slice a ts.length cap, .int .i64 0, .int .i64 (z : Int), .int .i64 0, .int .i64 0] 155 (0, 0))) (ha : a = none ∨ ∃ g, a = some ⟨g, 0, none⟩) (ht : TkAt W a ts) (hc : ts.length ≤ cap) (hs : ts.length ≤ 8000) (hz : z ≤ 8000) (hsz : ∀ t ∈ ts, t.s.length ≤ 1000000) (hg : 0 < ts.length → ∀ g o, a = some ⟨g, o, none⟩ → g ≠ B) :
    Pv ⟨W.heap.size + 1, B, a, cap, ts, z, W.heap.size, q, N0, J, T⟩ 0 ⟨ts, 0, 0⟩ (W.alloc (q 0)) := by
  have hB := (Array.getElem?_eq_some_iff.1 hb).1
  refine ⟨⟨ts.length, 0, (Below.heap_alloc _ _ _ hB).trans hb, Nat.zero_le _, Nat.le_refl _, by rw [List.take_length, List.drop_zero]⟩, fun h => absurd rfl h, fun h0 => ?_, fun _ => ha, heap_alloc_new _ _, by simp, by show B < W.heap.size + 1; omega, Nat.lt_succ_self _, by show W.heap.size ≠ B; omega, hc, hs, hz, Nat.zero_le _, hsz, hJ W _ (fun b hl => Below.heap_alloc _ _ _ (by omega)) hj, hJ, hN0, by show N0 ≤ W.heap.size; omega, hT⟩
  obtain ⟨g, e, hcell⟩ := ht h0
  obtain ⟨u, hu⟩ := tkCells_first h0
  have hgl := cell_lt (hcell 0 u hu)
  exact ⟨g, e, hg h0 g 0 e, by show g ≠ W.heap.size; omega, by show g < W.heap.size + 1; omega, fun j u hj => (World.cell?_of_block (a := ⟨g, j, none⟩) (Below.heap_alloc _ _ _ hgl)).trans (hcell j u hj)⟩
theorem lexP_size {l : List UInt8} (h : (lexP l).2.2 = 0) : l.length ≤ 8000 := by
  unfold lexP at h
  split at h
  · exact absurd h (by decide)
  · omega

end Go.Proofs.YtkahnlgedacppaaGreatDoor
