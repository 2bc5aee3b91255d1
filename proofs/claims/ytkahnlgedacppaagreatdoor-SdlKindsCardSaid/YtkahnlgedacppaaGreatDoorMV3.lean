/-
  value's reader: a token, a sign, a name; what a token is by itself.
-/
import Derived.Test.YtkahnlgedacppaaGreatDoorMDm
import Derived.Test.YtkahnlgedacppaaGreatDoorMCopy3
import Derived.Test.YtkahnlgedacppaaGreatDoorMAw
namespace Go.Proofs.YtkahnlgedacppaaGreatDoor
open Go.RowKit

/-- The reader lies in block R: the tokens, and where it stands. -/
structure Rv (w : World) (R : Nat) (a : Option Addr) (cap : Nat) (ts : List Tk) (p : Nat) : Prop where
  c0 : w.cell? ⟨R, 0, none⟩ = some (.slice a ts.length cap)
  c1 : w.cell? ⟨R, 1, none⟩ = some (.int .i64 p)
  fz : ∀ j, w.frozen? ⟨R, j, none⟩ = false
  hp : p ≤ ts.length
  hc : ts.length ≤ cap
  hs : ts.length ≤ 9000
  sz : ∀ t ∈ ts, t.s.length ≤ 1000000
  tk : 0 < ts.length → ∃ g off, a = some ⟨g, off, none⟩ ∧ g ≠ R ∧ ∀ j u, (tkCells ts)[j]? = some u → w.cell? ⟨g, off + j, none⟩ = some u

theorem cell_lt {w : World} {b o : Nat} {v : Value} (h : w.cell? ⟨b, o, none⟩ = some v) : b < w.heap.size := by
  unfold World.cell? at h
  by_cases hl : b < w.heap.size
  · exact hl
  · simp only [Array.getElem?_eq_none (show w.heap.size ≤ b by omega)] at h
    cases h
theorem Rv.lt {w : World} {R : Nat} {a : Option Addr} {cap : Nat} {ts : List Tk} {p : Nat} (h : Rv w R a cap ts p) : R < w.heap.size := cell_lt h.c0
theorem tkCells_first {ts : List Tk} (h : 0 < ts.length) : ∃ u, (tkCells ts)[0]? = some u := by
  obtain ⟨h0, _⟩ := tkCells_at ts 0 ts[0] (List.getElem?_eq_getElem h)
  exact ⟨_, h0⟩
/-- What is older than the world stays, but for block R. -/
theorem Rv.keep {w w' : World} {R : Nat} {a : Option Addr} {cap : Nat} {ts : List Tk} {p : Nat} (h : Rv w R a cap ts p) (hR : w'.heap[R]? = w.heap[R]?) (hb : ∀ g, g < w.heap.size → g ≠ R → w'.heap[g]? = w.heap[g]?) : Rv w' R a cap ts p := by
  have c : ∀ o, w'.cell? ⟨R, o, none⟩ = w.cell? ⟨R, o, none⟩ := fun o => World.cell?_of_block (a := ⟨R, o, none⟩) hR
  refine ⟨(c 0).trans h.c0, (c 1).trans h.c1, fun j => (World.frozen?_of_block (a := ⟨R, j, none⟩) hR).trans (h.fz j), h.hp, h.hc, h.hs, h.sz, fun h0 => ?_⟩
  obtain ⟨g, off, e, hg, hcell⟩ := h.tk h0
  refine ⟨g, off, e, hg, fun j u hj => ?_⟩
  have := hcell j u hj
  exact (World.cell?_of_block (a := ⟨g, off + j, none⟩) (hb g (cell_lt this) hg)).trans this
theorem Rv.below {w w' : World} {R : Nat} {a : Option Addr} {cap : Nat} {ts : List Tk} {p : Nat} (h : Rv w R a cap ts p) (hb : Below w.heap.size w w') : Rv w' R a cap ts p :=
  h.keep (hb.block R h.lt) (fun g hg _ => hb.block g hg)
theorem Rv.alloc {w : World} {R : Nat} {a : Option Addr} {cap : Nat} {ts : List Tk} {p : Nat} (h : Rv w R a cap ts p) (o : Obj) : Rv (w.alloc o) R a cap ts p := h.below ((Below.refl _ w).alloc (Nat.le_refl _) o)
theorem Rv.drew {w : World} {R : Nat} {a : Option Addr} {cap : Nat} {ts : List Tk} {p : Nat} (h : Rv w R a cap ts p) : Rv w.drew R a cap ts p := h.keep rfl (fun _ _ _ => rfl)
theorem Rv.setAt {w : World} {R : Nat} {a : Option Addr} {cap : Nat} {ts : List Tk} {p : Nat} (h : Rv w R a cap ts p) {z : Int} {q : Nat} (hz : z = q) (hq : q ≤ ts.length) : Rv (w.setCell ⟨R, 1, none⟩ (.int .i64 z)) R a cap ts q := by
  subst hz
  refine ⟨(World.cell?_setCell_other _ _ _ _ (by simp)).trans h.c0, World.cell?_setCell_same _ _ _ h.c1, fun j => (World.frozen?_setCell _ _ _ _).trans (h.fz j), hq, h.hc, h.hs, h.sz, fun h0 => ?_⟩
  obtain ⟨g, off, e, hg, hcell⟩ := h.tk h0
  refine ⟨g, off, e, hg, fun j u hj => ?_⟩
  rw [World.cell?_setCell_other _ _ _ _ (by intro e; have := congrArg Addr.block e; exact hg this.symm)]
  exact hcell j u hj
theorem Rv.keepT {w w' : World} {R : Nat} {a : Option Addr} {cap : Nat} {ts : List Tk} {p : Nat} (h : Rv w R a cap ts p) (hR : w'.heap[R]? = w.heap[R]?) (hb : ∀ g o, a = some ⟨g, o, none⟩ → 0 < ts.length → w'.heap[g]? = w.heap[g]?) : Rv w' R a cap ts p := by
  have c : ∀ o, w'.cell? ⟨R, o, none⟩ = w.cell? ⟨R, o, none⟩ := fun o => World.cell?_of_block (a := ⟨R, o, none⟩) hR
  refine ⟨(c 0).trans h.c0, (c 1).trans h.c1, fun j => (World.frozen?_of_block (a := ⟨R, j, none⟩) hR).trans (h.fz j), h.hp, h.hc, h.hs, h.sz, fun h0 => ?_⟩
  obtain ⟨g, off, e, hg, hcell⟩ := h.tk h0
  exact ⟨g, off, e, hg, fun j u hj => (World.cell?_of_block (a := ⟨g, off + j, none⟩) (hb g off e h0)).trans (hcell j u hj)⟩
theorem Rv.tokLt {w : World} {R : Nat} {a : Option Addr} {cap : Nat} {ts : List Tk} {p : Nat} (h : Rv w R a cap ts p) : ∀ g o, a = some ⟨g, o, none⟩ → 0 < ts.length → g < w.heap.size := fun g o e h0 => by
  obtain ⟨g', off, e', _, hc⟩ := h.tk h0
  obtain ⟨u, hu⟩ := tkCells_first h0
  rw [e] at e'
  injection e' with e'
  injection e' with e' _ _
  rw [e']
  exact cell_lt (hc 0 u hu)
theorem Rv.four {w : World} {R : Nat} {a : Option Addr} {cap : Nat} {ts : List Tk} {p : Nat} (h : Rv w R a cap ts p) {B : Nat} (hR : R ≠ B) (hg : ∀ g o, a = some ⟨g, o, none⟩ → 0 < ts.length → g ≠ B) (c0 c1 c2 c3 : Value) : Rv ((((w.setCell ⟨B, 0, none⟩ c0).setCell ⟨B, 1, none⟩ c1).setCell ⟨B, 2, none⟩ c2).setCell ⟨B, 3, none⟩ c3) R a cap ts p :=
  h.keepT (heap_four _ _ _ _ _ _ R hR) (fun g o e h0 => heap_four _ _ _ _ _ _ g (hg g o e h0))

/-- The tokens ahead of it. -/
def ahead (ts : List Tk) (p : Nat) : List Sk := (ts.drop p).map strip
theorem ahead_tail (ts : List Tk) (p : Nat) : (ahead ts p).tail = ahead ts (p + 1) := by
  unfold ahead
  rw [← List.map_tail, List.tail_drop]
theorem ahead_len (ts : List Tk) (p : Nat) : (ahead ts p).length = ts.length - p := by unfold ahead; rw [List.length_map, List.length_drop]
theorem ahead_hd (ts : List Tk) (p : Nat) (t : Tk) (h : ts[p]? = some t) : hdK (ahead ts p) = strip t := by
  have hl := (List.getElem?_eq_some_iff.1 h).1
  unfold ahead
  rw [List.drop_eq_getElem_cons hl]
  have := (List.getElem?_eq_some_iff.1 h).2
  rw [← this]; rfl
theorem ahead_end (ts : List Tk) : ahead ts ts.length = [] := by unfold ahead; rw [List.drop_length]; rfl

/-- It has gone on to l; nothing else has changed. -/
def NowV (R : Nat) (a : Option Addr) (cap : Nat) (ts : List Tk) (w : World) (l : List Sk) (w' : World) : Prop := ∃ p, ahead ts p = l ∧ Rv w' R a cap ts p ∧ Aw R w.heap.size w w'

theorem below_four {n B : Nat} {a W : World} (h : Below n a W) (hB : n ≤ B) (c0 c1 c2 c3 : Value) : Below n a ((((W.setCell ⟨B, 0, none⟩ c0).setCell ⟨B, 1, none⟩ c1).setCell ⟨B, 2, none⟩ c2).setCell ⟨B, 3, none⟩ c3) :=
  (((h.setCell (p := ⟨B, 0, none⟩) hB c0).setCell (p := ⟨B, 1, none⟩) hB c1).setCell (p := ⟨B, 2, none⟩) hB c2).setCell (p := ⟨B, 3, none⟩) hB c3

set_option maxHeartbeats 1000000 in
set_option maxRecDepth 100000 in
theorem isSign_any (t : Tk) (c : UInt8) (w : World) : Calls Tryz.prog 338 #[.agg #[.int .i64 t.k, .string ⟨t.s.toArray⟩, .int .i64 t.at_], .string ⟨#[c]⟩] w fun e w' => e = .returned (.bool (sg (strip t) c)) ∧ Below w.heap.size w w' := by
  have hbA : ∀ o, Below w.heap.size w (w.alloc o) := fun o => (Below.refl _ w).alloc (Nat.le_refl _) o
  cases hk : ((t.k : Int) == 5) with
  | false =>
    have HS := Lib.hid (show sg (strip t) c = false by unfold sg strip; rw [show (t.k == 5) = false by simp at hk ⊢; omega]; rfl)
    go_enter Tryz.func338, Tryz.ntmps338
    go_wp2_with fail
    go_ret
    exact ⟨by rw [HS.out]; rfl, hbA _⟩
  | true =>
    have HS := Lib.hid (show sg (strip t) c = (t.s == [c]) by unfold sg strip; rw [show (t.k == 5) = true by simp at hk ⊢; omega]; rfl)
    go_enter Tryz.func338, Tryz.ntmps338
    go_wp2_with fail
    go_ret
    refine ⟨?_, hbA _⟩
    rw [HS.out]; rfl

theorem below_drewN {B : Nat} {a w : World} (h : Below B a w) (k : Nat) : Below B a (w.drewN k) := ⟨h.os, h.tape, h.output, h.size, h.block⟩
/-- The token ahead; of no kind at the end. -/
theorem ahead_tok {w : World} {R : Nat} {a : Option Addr} {cap : Nat} {ts : List Tk} {p : Nat} (h : Rv w R a cap ts p) : (p = ts.length ∧ strip ⟨0, [], 0⟩ = hdK (ahead ts p)) ∨ (p < ts.length ∧ ∃ t g off, strip t = hdK (ahead ts p) ∧ t.s.length ≤ 1000000 ∧ a = some ⟨g, off, none⟩ ∧ g < w.heap.size ∧ w.cell? ⟨g, off + p * 3, none⟩ = some (.int .i64 t.k) ∧ w.cell? ⟨g, off + p * 3 + 1, none⟩ = some (.string ⟨t.s.toArray⟩) ∧ w.cell? ⟨g, off + p * 3 + 2, none⟩ = some (.int .i64 t.at_)) := by
  have hp := h.hp
  by_cases he : p = ts.length
  · left
    refine ⟨he, ?_⟩
    rw [he, ahead_end]; rfl
  · right
    have hl : p < ts.length := by omega
    obtain ⟨g, off, ha, _, hc⟩ := h.tk (by omega)
    obtain ⟨k0, k1, k2⟩ := tkCells_at ts p ts[p] (List.getElem?_eq_getElem hl)
    exact ⟨hl, ts[p], g, off, (ahead_hd ts p _ (List.getElem?_eq_getElem hl)).symm, h.sz _ (List.getElem_mem hl), ha, cell_lt (hc _ _ k0), hc _ _ k0, hc _ _ k1, hc _ _ k2⟩

/-- Where the token is written to, as it was laid. -/
theorem token_any {R : Nat} {a : Option Addr} {cap : Nat} {ts : List Tk} {p : Nat} (w : World) (h : Rv w R a cap ts p) : Calls Tryz.prog 339 #[.pointer (some ⟨R, 0, none⟩)] w fun e w' => ∃ t : Tk, strip t = hdK (ahead ts p) ∧ t.s.length ≤ 1000000 ∧ e = .returned (.agg #[.int .i64 t.k, .string ⟨t.s.toArray⟩, .int .i64 t.at_]) ∧ Below w.heap.size w w' := by
  have hRlt := h.lt
  have hx := ahead_tok h
  have hA := h.alloc (.cells #[.int .i64 0, .string ⟨#[]⟩, .int .i64 0] 197)
  have c0 := hA.c0
  have c1 := hA.c1
  have hs := h.hs
  have hc := h.hc
  have hbA : Below w.heap.size w (w.alloc (.cells #[.int .i64 0, .string ⟨#[]⟩, .int .i64 0] 197)) := (Below.refl _ w).alloc (Nat.le_refl _) _
  clear hA
  rcases hx with ⟨he, hst⟩ | ⟨hl, t, g, off, hst, hsz, rfl, hg, g0, g1, g2⟩
  · have e1 : ((p : Int) == (ts.length : Int)) = true := by simp; omega
    have HST := Lib.hid hst
    clear he hst h
    generalize ts.length = n at *
    go_enter Tryz.func339, Tryz.ntmps339
    go_upto_region 1 with fail
    go_quiet (fail)
    go_wp2_with fail
    refine bodyPost_ret (v := .agg #[.int .i64 0, .string ⟨#[]⟩, .int .i64 0]) (by simp [results, Tryz.results339, go_sem]) rfl ?_
    exact ⟨⟨0, [], 0⟩, HST.out, Nat.zero_le _, rfl, below_three (below_drewN hbA _) _ _ _⟩
  · have e1 : ((p : Int) == (ts.length : Int)) = false := by simp; omega
    have HST := Lib.hid hst
    clear hst h
    generalize ts.length = n at *
    go_enter Tryz.func339, Tryz.ntmps339
    go_upto_region 1 with fail
    go_quiet (fail)
    go_upto_region 3 with fail
    go_region
    all_goals
      go_wp2_with fail
      refine bodyPost_ret (v := .agg #[.int .i64 t.k, .string ⟨t.s.toArray⟩, .int .i64 t.at_]) (by simp [results, Tryz.results339, go_sem]) rfl ?_
      exact ⟨t, HST.out, hsz, rfl, below_three (below_drewN hbA _) _ _ _⟩

end Go.Proofs.YtkahnlgedacppaaGreatDoor
/-
  value's reader: a sign, a name that is taken; a token by itself; a variable.
-/
namespace Go.Proofs.YtkahnlgedacppaaGreatDoor
open Go.RowKit

theorem ahead_pos {ts : List Tk} {p : Nat} {c : UInt8} (hp : p ≤ ts.length) (h : sg (hdK (ahead ts p)) c = true) : p < ts.length := by
  by_cases e : p = ts.length
  · rw [e, ahead_end] at h
    exact absurd h (by unfold sg hdK; simp)
  · omega
theorem ahead_pos1 {ts : List Tk} {p : Nat} (hp : p ≤ ts.length) (h : (hdK (ahead ts p)).1 = 1) : p < ts.length := by
  by_cases e : p = ts.length
  · rw [e, ahead_end] at h
    exact absurd h (by unfold hdK; simp)
  · omega

set_option maxHeartbeats 1000000 in
theorem takeSign_no (c : UInt8) {R : Nat} {a : Option Addr} {cap : Nat} {ts : List Tk} {p : Nat} (w : World) (h : Rv w R a cap ts p) (hs : sg (hdK (ahead ts p)) c = false) :
    Calls Tryz.prog 317 #[.pointer (some ⟨R, 0, none⟩), .string ⟨#[c]⟩] w fun e w' => e = .returned (.bool false) ∧ Below w.heap.size w w' := by
  have HT := token_any w h
  clear h
  go_enter Tryz.func317, Tryz.ntmps317
  go_wp2_with fail
  refine HT.mono ?_
  rintro e w1 ⟨t, ht, _, rfl, hb⟩
  have HI := isSign_any t c w1
  rw [ht, hs] at HI
  clear ht hs
  go_wp2_with fail
  refine HI.mono ?_
  rintro e w2 ⟨rfl, hb2⟩
  go_wp2_with fail
  go_ret
  exact ⟨rfl, hb.trans (hb2.mono hb.size)⟩

set_option maxHeartbeats 1000000 in
theorem takeSign_yes (c : UInt8) {R : Nat} {a : Option Addr} {cap : Nat} {ts : List Tk} {p : Nat} (w : World) (h : Rv w R a cap ts p) (hs : sg (hdK (ahead ts p)) c = true) :
    Calls Tryz.prog 317 #[.pointer (some ⟨R, 0, none⟩), .string ⟨#[c]⟩] w fun e w' => e = .returned (.bool true) ∧ NowV R a cap ts w (ahead ts p).tail w' := by
  have HT := token_any w h
  have hpos := ahead_pos h.hp hs
  have hs9 := h.hs
  go_enter Tryz.func317, Tryz.ntmps317
  go_wp2_with fail
  refine HT.mono ?_
  rintro e w1 ⟨t, ht, _, rfl, hb⟩
  have HI := isSign_any t c w1
  rw [ht, hs] at HI
  clear ht hs
  go_wp2_with fail
  refine HI.mono ?_
  rintro e w2 ⟨rfl, hb2⟩
  have hb3 := hb.trans (hb2.mono hb.size)
  have hr := h.below hb3
  have HN := Lib.hid (show NowV R a cap ts w (ahead ts p).tail (w2.setCell ⟨R, 1, none⟩ (.int .i64 ((p : Int) + 1))) from ⟨p + 1, (ahead_tail ts p).symm, hr.setAt (q := p + 1) (by omega) (by omega), (Aw.of hb3).set _⟩)
  have c1 := hr.c1
  have fz := hr.fz 1
  have hw : IntKind.i64.wrap ((p : Int) + 1) = (p : Int) + 1 := IntWalk.i64_in _ (by omega)
  clear h hr HT hpos hs9 hb hb2 hb3
  go_wp2_with fail
  go_ret
  exact ⟨rfl, HN.out⟩

set_option maxHeartbeats 1000000 in
theorem takeName_no {R : Nat} {a : Option Addr} {cap : Nat} {ts : List Tk} {p : Nat} (w : World) (h : Rv w R a cap ts p) (hs : (hdK (ahead ts p)).1 ≠ 1) :
    Calls Tryz.prog 318 #[.pointer (some ⟨R, 0, none⟩)] w fun e w' => e = .returned (.tuple #[.string ⟨#[]⟩, .bool false]) ∧ Below w.heap.size w w' := by
  have HT := token_any w h
  clear h
  go_enter Tryz.func318, Tryz.ntmps318
  go_wp2_with fail
  refine HT.mono ?_
  rintro e w1 ⟨t, ht, _, rfl, hb⟩
  have hk : ((t.k : Int) == 1) = false := by
    have e1 : t.k = (hdK (ahead ts p)).1 := congrArg Prod.fst ht
    rw [beq_eq_false_iff_ne]; omega
  have hbA : ∀ o, Below w.heap.size w (w1.alloc o) := fun o => hb.alloc hb.size o
  clear ht hs hb
  go_wp2_with fail
  go_ret2
  exact ⟨rfl, hbA _⟩

set_option maxHeartbeats 1000000 in
theorem takeName_yes {R : Nat} {a : Option Addr} {cap : Nat} {ts : List Tk} {p : Nat} (w : World) (h : Rv w R a cap ts p) (hs : (hdK (ahead ts p)).1 = 1) :
    Calls Tryz.prog 318 #[.pointer (some ⟨R, 0, none⟩)] w fun e w' => e = .returned (.tuple #[.string ⟨(hdK (ahead ts p)).2.toArray⟩, .bool true]) ∧ (hdK (ahead ts p)).2.length ≤ 1000000 ∧ NowV R a cap ts w (ahead ts p).tail w' := by
  have HT := token_any w h
  have hpos := ahead_pos1 h.hp hs
  have hs9 := h.hs
  have hlt := h.lt
  go_enter Tryz.func318, Tryz.ntmps318
  go_wp2_with fail
  refine HT.mono ?_
  rintro e w1 ⟨t, ht, hz, rfl, hb⟩
  have hk : ((t.k : Int) == 1) = true := by
    have e1 : t.k = (hdK (ahead ts p)).1 := congrArg Prod.fst ht
    rw [beq_iff_eq]; omega
  have HE := Lib.hid (show (hdK (ahead ts p)).2 = t.s from (congrArg Prod.snd ht).symm)
  have hr := (h.below hb).alloc (.cells #[.int .i64 t.k, .string ⟨t.s.toArray⟩, .int .i64 t.at_] 197)
  have hb1 := hb.size
  have HN := Lib.hid (show NowV R a cap ts w (ahead ts p).tail ((w1.alloc (.cells #[.int .i64 t.k, .string ⟨t.s.toArray⟩, .int .i64 t.at_] 197)).setCell ⟨R, 1, none⟩ (.int .i64 ((p : Int) + 1))) from ⟨p + 1, (ahead_tail ts p).symm, hr.setAt (q := p + 1) (by omega) (by omega), ((Aw.of hb).alloc hb.size _).set _⟩)
  have HZ := Lib.hid hz
  have c1 := hr.c1
  have fz := hr.fz 1
  have hw : IntKind.i64.wrap ((p : Int) + 1) = (p : Int) + 1 := IntWalk.i64_in _ (by omega)
  clear h hr HT hpos hs9 hb ht hs hz
  go_wp2_with fail
  go_ret2
  rw [HE.out]
  exact ⟨rfl, HZ.out, HN.out⟩

end Go.Proofs.YtkahnlgedacppaaGreatDoor
/-
  value's reader: what a token is by itself; a variable.
-/
namespace Go.Proofs.YtkahnlgedacppaaGreatDoor
open Go.RowKit

theorem vtoList (s : ByteArray) : s.toList = vbl s := by rw [Lib.toList_data]; rfl
theorem toList_no {s : ByteArray} {m : List UInt8} (h : vbl s ≠ m) : (s.toList == m) = false := by
  rw [beq_eq_false_iff_ne, vtoList]; exact h
theorem toList_yes {s : ByteArray} {m : List UInt8} (h : vbl s = m) : (s.toList == m) = true := by
  rw [beq_iff_eq, vtoList]; exact h

/-- A leaf as it lies. -/
def leafOf (x : JV) : Value := leaf x.k x.s

set_option maxHeartbeats 1000000 in
theorem vword_any (s : ByteArray) (w : World) : Calls Tryz.prog 360 #[.string s] w fun e w' => e = .returned (leafOf (wordV (vbl s))) ∧ Below w.heap.size w w' := by
  have hbA : ∀ o, Below w.heap.size w (w.alloc o) := fun o => (Below.refl _ w).alloc (Nat.le_refl _) o
  by_cases h1 : vbl s = nullS
  · have e1 := toList_yes h1
    have HU := Lib.hid (show wordV (vbl s) = vx 1 [] by unfold wordV; rw [if_pos h1])
    unfold nullS at e1
    clear h1
    go_enter Tryz.func360, Tryz.ntmps360
    go_wp2_with fail
    refine bodyPost_ret (v := leaf 1 ⟨#[]⟩) (by simp [results, Tryz.results360, go_sem, leaf]) rfl ?_
    rw [HU.out]
    exact ⟨rfl, hbA _⟩
  · have e1 := toList_no h1
    unfold nullS at e1
    by_cases h2 : vbl s = trueS
    · have e2 := toList_yes h2
      have HU := Lib.hid (show wordV (vbl s) = vx 2 (vbl s) by unfold wordV; rw [if_neg h1, if_pos h2])
      unfold trueS at e2
      clear h1 h2
      go_enter Tryz.func360, Tryz.ntmps360
      go_wp2_with fail
      refine bodyPost_ret (v := leaf 2 s) (by simp [results, Tryz.results360, go_sem, leaf]) rfl ?_
      rw [HU.out]
      exact ⟨rfl, hbA _⟩
    · have e2 := toList_no h2
      unfold trueS at e2
      by_cases h3 : vbl s = falseS
      · have e3 := toList_yes h3
        have HU := Lib.hid (show wordV (vbl s) = vx 2 (vbl s) by unfold wordV; rw [if_neg h1, if_neg h2, if_pos h3])
        unfold falseS at e3
        clear h1 h2 h3
        go_enter Tryz.func360, Tryz.ntmps360
        go_wp2_with fail
        refine bodyPost_ret (v := leaf 2 s) (by simp [results, Tryz.results360, go_sem, leaf]) rfl ?_
        rw [HU.out]
        exact ⟨rfl, hbA _⟩
      · have e3 := toList_no h3
        have HU := Lib.hid (show wordV (vbl s) = vx 6 (vbl s) by unfold wordV; rw [if_neg h1, if_neg h2, if_neg h3])
        unfold falseS at e3
        clear h1 h2 h3
        go_enter Tryz.func360, Tryz.ntmps360
        go_wp2_with fail
        refine bodyPost_ret (v := leaf 6 s) (by simp [results, Tryz.results360, go_sem, leaf]) rfl ?_
        rw [HU.out]
        exact ⟨rfl, hbA _⟩

set_option maxHeartbeats 2000000 in
theorem plain_any (t : Tk) (w : World) : Calls Tryz.prog 345 #[.agg #[.int .i64 t.k, .string ⟨t.s.toArray⟩, .int .i64 t.at_]] w fun e w' => e = .returned (leafOf (plainV (strip t))) ∧ Below w.heap.size w w' := by
  have hbA : ∀ o o', Below w.heap.size w ((w.alloc o).alloc o') := fun o o' => ((Below.refl _ w).alloc (Nat.le_refl _) o).alloc (by simp) o'
  by_cases h1 : t.k = 1
  · have k1 : ((t.k : Int) == 1) = true := by rw [beq_iff_eq]; omega
    have HU := Lib.hid (show plainV (strip t) = wordV t.s by unfold plainV; rw [if_pos (show (strip t).1 = 1 from h1)]; rfl)
    have HW := vword_any ⟨t.s.toArray⟩ ((w.alloc (.cells #[.int .i64 t.k, .string ⟨t.s.toArray⟩, .int .i64 t.at_] 197)).alloc (.cells #[.int .i64 0, .string ⟨#[]⟩, .slice none 0 0, .slice none 0 0] 52))
    have hX := Bx.new (w.alloc (.cells #[.int .i64 t.k, .string ⟨t.s.toArray⟩, .int .i64 t.at_] 197))
    have hb0 := hbA (.cells #[.int .i64 t.k, .string ⟨t.s.toArray⟩, .int .i64 t.at_] 197) (.cells #[.int .i64 0, .string ⟨#[]⟩, .slice none 0 0, .slice none 0 0] 52)
    have ev : vbl ⟨t.s.toArray⟩ = t.s := rfl
    rw [ev] at HW
    clear h1 ev
    go_enter Tryz.func345, Tryz.ntmps345
    go_wp2_with fail
    refine HW.mono ?_
    rintro e w1 ⟨rfl, hb⟩
    have hx : Bx w1 (w.heap.size + 1) := by
      have := hX.keep (hb.block _ (by simp))
      simpa using this
    have hb1 : Below w.heap.size w w1 := hb0.trans (hb.mono (by simp; omega))
    obtain ⟨r0, r1, r2, r3, rf⟩ := hx
    have HB := Lib.hid hb1
    clear hb hb0 hb1 hX
    unfold leafOf leaf
    go_wp2_with fail
    refine bodyPost_ret (v := leafOf (wordV t.s)) (by simp [results, Tryz.results345, go_sem, leafOf, leaf, r0, r1, r2, r3]) rfl ?_
    rw [HU.out]
    exact ⟨rfl, below_four HB.out (by omega) _ _ _ _⟩
  · have k1 : ((t.k : Int) == 1) = false := by rw [beq_eq_false_iff_ne]; omega
    by_cases h2 : t.k = 2
    · have k2 : ((t.k : Int) == 2) = true := by rw [beq_iff_eq]; omega
      have HU := Lib.hid (show plainV (strip t) = vx 3 t.s by unfold plainV; rw [if_neg (show ¬ (strip t).1 = 1 from h1), if_pos (show (strip t).1 = 2 from h2)]; rfl)
      clear h1 h2
      go_enter Tryz.func345, Tryz.ntmps345
      go_wp2_with fail
      refine bodyPost_ret (v := leaf 3 ⟨t.s.toArray⟩) (by simp [results, Tryz.results345, go_sem, leaf]) rfl ?_
      rw [HU.out]
      exact ⟨rfl, hbA _ _⟩
    · have k2 : ((t.k : Int) == 2) = false := by rw [beq_eq_false_iff_ne]; omega
      by_cases h3 : t.k = 3
      · have k3 : ((t.k : Int) == 3) = true := by rw [beq_iff_eq]; omega
        have HU := Lib.hid (show plainV (strip t) = vx 4 t.s by unfold plainV; rw [if_neg (show ¬ (strip t).1 = 1 from h1), if_neg (show ¬ (strip t).1 = 2 from h2), if_pos (show (strip t).1 = 3 from h3)]; rfl)
        clear h1 h2 h3
        go_enter Tryz.func345, Tryz.ntmps345
        go_wp2_with fail
        refine bodyPost_ret (v := leaf 4 ⟨t.s.toArray⟩) (by simp [results, Tryz.results345, go_sem, leaf]) rfl ?_
        rw [HU.out]
        exact ⟨rfl, hbA _ _⟩
      · have k3 : ((t.k : Int) == 3) = false := by rw [beq_eq_false_iff_ne]; omega
        by_cases h4 : t.k = 4
        · have k4 : ((t.k : Int) == 4) = true := by rw [beq_iff_eq]; omega
          have HU := Lib.hid (show plainV (strip t) = vx 5 t.s by unfold plainV; rw [if_neg (show ¬ (strip t).1 = 1 from h1), if_neg (show ¬ (strip t).1 = 2 from h2), if_neg (show ¬ (strip t).1 = 3 from h3), if_pos (show (strip t).1 = 4 from h4)]; rfl)
          clear h1 h2 h3 h4
          go_enter Tryz.func345, Tryz.ntmps345
          go_wp2_with fail
          refine bodyPost_ret (v := leaf 5 ⟨t.s.toArray⟩) (by simp [results, Tryz.results345, go_sem, leaf]) rfl ?_
          rw [HU.out]
          exact ⟨rfl, hbA _ _⟩
        · have k4 : ((t.k : Int) == 4) = false := by rw [beq_eq_false_iff_ne]; omega
          have HU := Lib.hid (show plainV (strip t) = vz by unfold plainV; rw [if_neg (show ¬ (strip t).1 = 1 from h1), if_neg (show ¬ (strip t).1 = 2 from h2), if_neg (show ¬ (strip t).1 = 3 from h3), if_neg (show ¬ (strip t).1 = 4 from h4)])
          clear h1 h2 h3 h4
          go_enter Tryz.func345, Tryz.ntmps345
          go_wp2_with fail
          refine bodyPost_ret (v := leaf 0 ⟨#[]⟩) (by simp [results, Tryz.results345, go_sem, leaf]) rfl ?_
          rw [HU.out]
          exact ⟨rfl, hbA _ _⟩

/-- What comes of a call of the reader: the value in new blocks, or none and why; where it stands then. -/
def VIsV (R : Nat) (a : Option Addr) (cap : Nat) (ts : List Tk) (n : Nat) (w : World) (r : VR) (e : Ending) (w' : World) : Prop :=
  NowV R a cap ts w r.2.1 w' ∧ (if r.2.2 = 0 then ∃ v, e = .returned (.tuple #[v, .int .i64 0]) ∧ RdD w' (fun b => w.heap.size ≤ b ∧ b < w'.heap.size) n r.1 v else e = .returned (.tuple #[leaf 0 ⟨#[]⟩, .int .i64 r.2.2]) ∧ r.2.2 ≤ 4)

theorem NowV.four {R : Nat} {a : Option Addr} {cap : Nat} {ts : List Tk} {p0 : Nat} {w W : World} {l : List Sk} (h0 : Rv w R a cap ts p0) {p : Nat} (hl : ahead ts p = l) (hr : Rv W R a cap ts p) (ha : Aw R w.heap.size w W) (c0 c1 c2 c3 : Value) :
    NowV R a cap ts w l ((((W.setCell ⟨w.heap.size, 0, none⟩ c0).setCell ⟨w.heap.size, 1, none⟩ c1).setCell ⟨w.heap.size, 2, none⟩ c2).setCell ⟨w.heap.size, 3, none⟩ c3) := by
  have h1 := h0.lt
  exact ⟨p, hl, hr.four (by omega) (fun g o e hp => by have := h0.tokLt g o e hp; omega) _ _ _ _, ha.four (Nat.le_refl _) _ _ _ _⟩

set_option maxHeartbeats 2000000 in
theorem variable_any {R : Nat} {a : Option Addr} {cap : Nat} {ts : List Tk} {p : Nat} (n : Nat) (w : World) (h : Rv w R a cap ts p) :
    Calls Tryz.prog 346 #[.pointer (some ⟨R, 0, none⟩)] w (VIsV R a cap ts (n + 1) w (varV (ahead ts p))) := by
  have hA := h.alloc (.cells #[.int .i64 0, .string ⟨#[]⟩, .slice none 0 0, .slice none 0 0] 52)
  have hX := Bx.new w
  have hb0 : Below w.heap.size w (w.alloc (.cells #[.int .i64 0, .string ⟨#[]⟩, .slice none 0 0, .slice none 0 0] 52)) := (Below.refl _ w).alloc (Nat.le_refl _) _
  have hRlt := h.lt
  by_cases h1 : (hdK (ahead ts p)).1 = 1
  · have HT := takeName_yes _ hA h1
    have HU := Lib.hid (show varV (ahead ts p) = (vx 9 (hdK (ahead ts p)).2, (ahead ts p).tail, 0) by unfold varV; rw [if_pos h1])
    clear h1 hA
    go_enter Tryz.func346, Tryz.ntmps346
    go_wp2_with fail
    refine HT.mono ?_
    rintro e w1 ⟨rfl, hz, q, hl, hr, ha⟩
    have hx : Bx w1 w.heap.size := hX.keep (ha.block _ (by simp) (by omega))
    have ha1 : Aw R w.heap.size w w1 := (Aw.of hb0).trans (ha.mono (by simp))
    have HL := Lib.hid hl
    obtain ⟨r0, r1, r2, r3, rf⟩ := hx
    clear hl ha hb0 hX
    go_wp2_with fail
    refine bodyPost_ret (v := .tuple #[leaf 9 ⟨(hdK (ahead ts p)).2.toArray⟩, .int .i64 0]) (by simp [results, Tryz.results346, go_sem, leaf, r0, r1, r2, r3]) rfl ?_
    rw [HU.out]
    refine ⟨NowV.four h HL.out hr ha1 _ _ _ _, ?_⟩
    rw [if_pos rfl]
    exact ⟨_, rfl, rd_leaf _ _ _ _ _ (by show (hdK (ahead ts p)).2.length ≤ _; omega)⟩
  · have HT := takeName_no _ hA h1
    have HU := Lib.hid (show varV (ahead ts p) = (vz, ahead ts p, 2) by unfold varV; rw [if_neg h1])
    clear h1
    go_enter Tryz.func346, Tryz.ntmps346
    go_wp2_with fail
    refine HT.mono ?_
    rintro e w1 ⟨rfl, hb⟩
    have hx : Bx w1 w.heap.size := hX.keep (hb.block _ (by simp))
    have hr := hA.below hb
    have ha1 : Aw R w.heap.size w w1 := Aw.of (hb0.trans (hb.mono (by simp)))
    obtain ⟨r0, r1, r2, r3, rf⟩ := hx
    clear hb hb0 hX hA
    go_wp2_with fail
    refine bodyPost_ret (v := .tuple #[leaf 0 ⟨#[]⟩, .int .i64 2]) (by simp [results, Tryz.results346, go_sem, leaf, r0, r1, r2, r3]) rfl ?_
    rw [HU.out]
    refine ⟨NowV.four h rfl hr ha1 _ _ _ _, ?_⟩
    rw [if_neg (show ¬ (2 = 0) by decide)]
    exact ⟨rfl, by show (2 : Nat) ≤ 4; decide⟩

end Go.Proofs.YtkahnlgedacppaaGreatDoor
