/-
  What jval.copyOf answers: a value that reads as the one that it is given.
-/
import Derived.Test.YthmoadkkadlefaaDoorCopy2
namespace Go.Proofs.YthmoadkkadlefaaDoor
open Go.RowKit

theorem infoList : (Tryd.prog.info? 23).map (fun i => (i.zero, i.size, i.bytes)) = some (some (.slice none 0 0), 1, 24) := by kernel_rfl
theorem infoVal : (Tryd.prog.info? 25).map (fun i => (i.zero, i.size, i.bytes)) = some (some (.agg #[.int .i64 0, .string ⟨#[]⟩, .slice none 0 0, .slice none 0 0]), 4, 72) := by kernel_rfl
theorem infoStr : (Tryd.prog.info? 9).map (fun i => (i.zero, i.size, i.bytes)) = some (some (.string ⟨#[]⟩), 1, 16) := by kernel_rfl

/-- A value that reads as x, through blocks below B or new ones alone. -/
def ValBelow (B n : Nat) (x : JV) (w : World) (e : Ending) (w' : World) : Prop := ∃ v', e = .returned v' ∧ RdD w' (fun b => b < w'.heap.size ∧ (b < B ∨ w.heap.size ≤ b)) n x v' ∧ Below w.heap.size w w'
def XB (B N : Nat) (b : Nat) : Prop := B ≤ b ∧ b < N + 2

def OutRel (X : Nat → Prop) (B0 : Nat) (w0 : World) (T : CE) (k : Nat) (v : Value) (wr : World) : Prop := ∃ es, k = mC es ∧ mC es ≤ 2000001 ∧ CS X B0 w0 es [T] v wr

theorem snocC {α : Type} (l : List α) : l = [] ∨ ∃ i e, l = i ++ [e] := by
  rcases List.eq_nil_or_concat l with h | ⟨i, e, h⟩
  · exact .inl h
  · exact .inr ⟨i, e, by rw [h]; simp⟩

def InRel (X : Nat → Prop) (B0 : Nat) (w0 : World) (T P : CE) (M : Nat) (k : Nat) (i v : Value) (wr : World) : Prop :=
  ∃ (j : Nat) (es : List CE), k = P.xs.length - j ∧ j ≤ P.xs.length ∧ i = .int .i64 j ∧ CS X B0 w0 es [T, P] v wr ∧ mC es + 1 + ((P.xs.drop j).map (nodes P.n)).sum ≤ M

theorem nodes_step (n : Nat) (xs : List JV) (j : Nat) (h : j < xs.length) : ((xs.drop j).map (nodes (n + 1))).sum = 1 + ((xs[j].ps).map (nodes n)).sum + ((xs.drop (j + 1)).map (nodes (n + 1))).sum := by
  rw [List.drop_eq_getElem_cons h, List.map_cons, List.sum_cons]
  rfl

theorem CS.pop {X : Nat → Prop} {B0 : Nat} {w0 w : World} {es ks : List CE} {e : CE} {v : Value} (h : CS X B0 w0 (es ++ [e]) ks v w) :
    ∃ go cap, v = .slice (some ⟨go, 0, none⟩) (es.length + 1) cap ∧ es.length + 1 ≤ cap ∧ w.cell? ⟨go, es.length, none⟩ = some e.cell ∧ CS X B0 w0 es (ks ++ [e]) (.slice (some ⟨go, 0, none⟩) es.length cap) w ∧ e.Ok w X go B0 := by
  obtain ⟨go, hown, hgo, hbw, hle, hok⟩ := h
  rw [List.length_append, List.length_singleton, List.map_append] at hown
  rcases hown.2 with ⟨_, h0⟩ | ⟨g, cap, cur, rfl, _, _, hc, _⟩
  · omega
  · obtain rfl : g = go := by simpa [Value.ownBlock] using hgo
    refine ⟨g, cap, rfl, hc, ?_, ⟨g, ownsRow_pop (by simp) hown, rfl, hbw, hle, fun x hx => hok x ?_⟩, hok e (by simp)⟩
    · rw [hown.cellAt _ (by omega), List.getElem?_append_right (by simp)]
      simp
    · rcases hx with hx | hx
      · exact .inl (by simp [hx])
      · rcases List.mem_append.1 hx with hx | hx
        · exact .inr hx
        · exact .inl (by simp at hx; simp [hx])

theorem CS.lose {X : Nat → Prop} {B0 : Nat} {w0 w : World} {es : List CE} {T P : CE} {v : Value} (h : CS X B0 w0 es [T, P] v w) : CS X B0 w0 es [T] v w := by
  obtain ⟨go, hown, hgo, hbw, hle, hok⟩ := h
  exact ⟨go, hown, hgo, hbw, hle, fun e he => hok e (by rcases he with he | he; exact .inl he; exact .inr (by simp at he; simp [he]))⟩

set_option maxHeartbeats 2000000 in
set_option maxRecDepth 100000 in
theorem copyOf_any (B n : Nat) (x : JV) (v : Value) (w : World) (hB : B ≤ w.heap.size) (hn : nodes n x ≤ 2000000) (h : Rd w B n x v) :
    Calls Tryd.prog 28 #[v] w (ValBelow B n x w) := by
  obtain ⟨i1, hi1, hz10, hz11, hz12⟩ := info_parts infoList
  obtain ⟨i2, hi2, hz20, hz21, hz22⟩ := info_parts infoVal
  obtain ⟨i3, hi3, hz30, hz31, hz32⟩ := info_parts infoStr
  have H0 := h
  obtain ⟨an, cn, ap, cp, rfl⟩ := h.shape
  go_enter Tryd.func28, Tryd.ntmps28
  go_wp2_with fail
  obtain ⟨W4, hW4⟩ : ∃ W4, W4 = ((((w.alloc (.cells #[.int .i64 x.k, .string x.s, .slice an x.ns.length cn, .slice ap x.ps.length cp] 25)).alloc (.cells #[.int .i64 0, .string ⟨#[]⟩, .slice none 0 0, .slice none 0 0] 25)).alloc (.cells #[.int .i64 x.k, .string x.s, .slice an x.ns.length cn, .slice ap x.ps.length cp] 25)).alloc (.cells #[.slice (some ⟨w.heap.size + 1 + 1, 0, none⟩) 1 1] 23)) := ⟨_, rfl⟩
  rw [← hW4]
  have hb4 : Below w.heap.size w W4 := by
    rw [hW4]
    exact ((((Below.refl _ w).alloc (Nat.le_refl _) _).alloc (by simp) _).alloc (by simp; omega) _).alloc (by simp; omega) _
  have hs4 : W4.heap.size = w.heap.size + 4 := by rw [hW4]; simp
  have c2 : ∀ j, W4.cell? ⟨w.heap.size + 1 + 1, j, none⟩ = (#[Value.int .i64 x.k, .string x.s, .slice an x.ns.length cn, .slice ap x.ps.length cp] : Array Value)[j]? := fun j => by rw [hW4]; go_simp
  have f2 : ∀ j, W4.frozen? ⟨w.heap.size + 1 + 1, j, none⟩ = false := fun j => by rw [hW4]; go_simp
  have r1 : ∀ j, W4.cell? ⟨w.heap.size + 1, j, none⟩ = (#[Value.int .i64 0, .string ⟨#[]⟩, .slice none 0 0, .slice none 0 0] : Array Value)[j]? := fun j => by rw [hW4]; go_simp
  have rf1 : ∀ j, W4.frozen? ⟨w.heap.size + 1, j, none⟩ = false := fun j => by rw [hW4]; go_simp
  have hblk : W4.heap[w.heap.size + 1 + 1 + 1]? = some (.cells #[.slice (some ⟨w.heap.size + 1 + 1, 0, none⟩) 1 1] 23 (0, 0)) := by
    rw [hW4]
    have := heap_alloc_new (((w.alloc (.cells #[.int .i64 x.k, .string x.s, .slice an x.ns.length cn, .slice ap x.ps.length cp] 25)).alloc (.cells #[.int .i64 0, .string ⟨#[]⟩, .slice none 0 0, .slice none 0 0] 25)).alloc (.cells #[.int .i64 x.k, .string x.s, .slice an x.ns.length cn, .slice ap x.ps.length cp] 25)) (.cells #[.slice (some ⟨w.heap.size + 1 + 1, 0, none⟩) 1 1] 23)
    simpa using this
  have hRD : RdD W4 (Dm W4 (XB B w.heap.size) (w.heap.size + 1 + 1 + 1)) n x (.agg #[.int .i64 x.k, .string x.s, .slice an x.ns.length cn, .slice ap x.ps.length cp]) :=
    (h.below (hb4.mono hB)).toD fun b hb => ⟨by omega, by omega, fun h => by have := h.1; omega⟩
  have hcs0 : CS (XB B w.heap.size) (w.heap.size + 2) W4 [⟨w.heap.size + 1 + 1, 1, n, [x]⟩] [⟨w.heap.size + 1 + 1, 1, n, [x]⟩] (.slice (some ⟨w.heap.size + 1 + 1 + 1, 0, none⟩) 1 1) W4 := by
    refine ⟨w.heap.size + 1 + 1 + 1, ⟨rfl, .inr ⟨w.heap.size + 1 + 1 + 1, 1, #[.slice (some ⟨w.heap.size + 1 + 1, 0, none⟩) 1 1], rfl, by omega, hblk, Nat.le_refl _, by unfold maxLen; omega, rfl, rfl⟩⟩, rfl, Below.refl _ _, by omega, ?_⟩
    intro e he
    have he' : e = ⟨w.heap.size + 1 + 1, 1, n, [x]⟩ := by simpa using he
    subst he'
    refine ⟨by show _ ≤ w.heap.size + 1 + 1; omega, by show w.heap.size + 1 + 1 < _; omega, by show w.heap.size + 1 + 1 ≠ _; omega, (fun h => by have h2 : w.heap.size + 1 + 1 < w.heap.size + 2 := h.2; omega), f2, by simp, by simp, fun _ => ⟨w.heap.size + 1 + 1, 0, rfl, ⟨by omega, by omega, fun h => by have h2 := h.2; omega⟩, fun i z hz => ?_⟩⟩
    match i, hz with
    | 0, hz =>
      simp at hz
      subst hz
      exact ⟨_, _, _, _, ⟨c2 0, c2 1, c2 2, c2 3⟩, hRD⟩
  clear hW4 c2 f2 hblk hRD h H0
  go_loopg [4] (mC [⟨w.heap.size + 1 + 1, 1, n, [x]⟩]) (fun k v wr => OutRel (XB B w.heap.size) (w.heap.size + 2) W4 ⟨w.heap.size + 1 + 1, 1, n, [x]⟩ k v wr)
  case atStart => exact ⟨_, rfl, by simp [mC, CE.wt]; omega, hcs0⟩
  case round =>
    clear hcs0
    obtain ⟨es, rfl, hmx, hcs⟩ := hrel
    rcases snocC es with rfl | ⟨es, e, rfl⟩
    · obtain ⟨go, hown, hgo, hbw, hle, hok⟩ := hcs
      obtain ⟨ao, cap, rfl⟩ : ∃ ao cap, u4 = .slice ao 0 cap := by
        rcases hown.2 with ⟨hv, _⟩ | ⟨g, cap, cur, hv, _⟩
        · exact ⟨_, _, hv⟩
        · exact ⟨_, _, hv⟩
      have hT := hok ⟨w.heap.size + 1 + 1, 1, n, [x]⟩ (by simp)
      obtain ⟨b, off, ea, hb, hc⟩ := hT.rd (by simp)
      obtain ⟨c0, c1, c2, c3, ⟨f0, f1, f2, f3⟩, hR⟩ := hc 0 x rfl
      injection ea with ea
      injection ea with eb eo
      subst eb eo
      rw [Nat.zero_mul, Nat.zero_add] at f0 f1 f2 f3
      obtain ⟨an1, cn1, ap1, cp1, ev⟩ := hR.shape
      injection ev with ev
      have ev' : [c0, c1, c2, c3] = _ := congrArg Array.toList ev
      simp only [List.cons.injEq, and_true] at ev'
      obtain ⟨rfl, rfl, rfl, rfl⟩ := ev'
      have q0 : wr.cell? ⟨w.heap.size + 1, 0, none⟩ = some (.int .i64 0) := (hbw.cell (p := ⟨w.heap.size + 1, 0, none⟩) (by show w.heap.size + 1 < _; omega)).trans (r1 0)
      have q1 : wr.cell? ⟨w.heap.size + 1, 1, none⟩ = some (.string ⟨#[]⟩) := (hbw.cell (p := ⟨w.heap.size + 1, 1, none⟩) (by show w.heap.size + 1 < _; omega)).trans (r1 1)
      have q2 : wr.cell? ⟨w.heap.size + 1, 2, none⟩ = some (.slice none 0 0) := (hbw.cell (p := ⟨w.heap.size + 1, 2, none⟩) (by show w.heap.size + 1 < _; omega)).trans (r1 2)
      have q3 : wr.cell? ⟨w.heap.size + 1, 3, none⟩ = some (.slice none 0 0) := (hbw.cell (p := ⟨w.heap.size + 1, 3, none⟩) (by show w.heap.size + 1 < _; omega)).trans (r1 3)
      have qf : ∀ j, wr.frozen? ⟨w.heap.size + 1, j, none⟩ = false := fun j => (hbw.frozen (p := ⟨w.heap.size + 1, j, none⟩) (by show w.heap.size + 1 < _; omega)).trans (rf1 j)
      clear hok hT hc hown r1 rf1 ev
      go_wp2_with fail
      refine bodyPost_ret (v := .agg #[.int .i64 x.k, .string x.s, .slice an1 x.ns.length cn1, .slice ap1 x.ps.length cp1]) (by simp [results, Tryd.results28, go_sem, q0, q1, q2, q3]) rfl ⟨_, rfl, ?_, ?_⟩
      · refine RdD.step (fun b hd => ⟨by simpa [World.setCell] using hd.1, Classical.byContradiction fun hn => hd.2.2 ⟨by omega, by omega⟩⟩) (fun b o hd => ?_) hR
        have hne : b ≠ w.heap.size + 1 := fun e => hd.2.2 ⟨by omega, by omega⟩
        rw [World.cell?_setCell_other _ _ _ _ (by intro e; have := congrArg Addr.block e; simp at this; omega), World.cell?_setCell_other _ _ _ _ (by intro e; have := congrArg Addr.block e; simp at this; omega), World.cell?_setCell_other _ _ _ _ (by intro e; have := congrArg Addr.block e; simp at this; omega), World.cell?_setCell_other _ _ _ _ (by intro e; have := congrArg Addr.block e; simp at this; omega)]
      · exact ((((hb4.trans (hbw.mono (by omega))).setCell (p := ⟨w.heap.size + 1, 0, none⟩) (by show _ ≤ w.heap.size + 1; omega) _).setCell (p := ⟨w.heap.size + 1, 1, none⟩) (by show _ ≤ w.heap.size + 1; omega) _).setCell (p := ⟨w.heap.size + 1, 2, none⟩) (by show _ ≤ w.heap.size + 1; omega) _).setCell (p := ⟨w.heap.size + 1, 3, none⟩) (by show _ ≤ w.heap.size + 1; omega) _
    · obtain ⟨go, cap, rfl, hcap, hcell, hcs1, hokP⟩ := hcs.pop
      have hM := Lib.hid hmx
      have hl : es.length ≤ 2000001 := by have := mC_len es; have h2 := mC_snoc es e; omega
      have HW : Hid (mC es + 1 + ((e.xs.drop 0).map (nodes e.n)).sum ≤ mC (es ++ [e])) := Lib.hid (by rw [mC_snoc, List.drop_zero]; unfold CE.wt; omega)
      clear hcs hmx
      generalize hll : es.length = l at *
      have HLL := Lib.hid hll
      clear hll
      obtain ⟨gp, capp, np, xsp⟩ := e
      have hcell' : wr.cell? ⟨go, l, none⟩ = some (.slice (some ⟨gp, 0, none⟩) xsp.length capp) := hcell
      have hxl : xsp.length ≤ 2000000 := hokP.len
      clear hcell
      go_wp2_with fail
      go_loopg [4, 28] (xsp.length - 0) (fun k v i wr => InRel (XB B w.heap.size) (w.heap.size + 2) W4 ⟨w.heap.size + 1 + 1, 1, n, [x]⟩ ⟨gp, capp, np, xsp⟩ (mC (es ++ [⟨gp, capp, np, xsp⟩])) k i v wr)
      case atStart => exact ⟨0, es, rfl, Nat.zero_le _, rfl, hcs1, HW.out⟩
      case round =>
        clear hcs1 hokP hcell' HW hcap hl
        rename_i wr0 _ _ _ _
        obtain ⟨j, es1, rfl, hj, rfl, hcs, hwt⟩ := hrel
        have HWT := Lib.hid hwt
        clear hwt
        by_cases hlt : j < xsp.length
        · obtain ⟨go1, hown, hgo, hbw, hle, hok⟩ := hcs
          have hokP := hok ⟨gp, capp, np, xsp⟩ (by simp)
          obtain ⟨y, an1, cn1, ap1, cp1, HY, hRy, f0, f1, f2, f3⟩ := hokP.elem hlt
          have hgl : gp < wr.heap.size := hokP.hi
          have hfz : ∀ j, wr.frozen? ⟨gp, j, none⟩ = false := hokP.fz
          have hgne : gp ≠ go1 := hokP.ne
          have hglo : w.heap.size + 2 ≤ gp := hokP.lo
          have hgo1 : go1 < wr.heap.size := (hown.lt go1 hgo).2
          have hcs : CS (XB B w.heap.size) (w.heap.size + 2) W4 es1 [⟨w.heap.size + 1 + 1, 1, n, [x]⟩, ⟨gp, capp, np, xsp⟩] u4 wr := ⟨go1, hown, hgo, hbw, hle, hok⟩
          have hwz : w.heap.size + 4 ≤ wr.heap.size := by have := hbw.size; omega
          have hbA : ∀ o, Below wr.heap.size wr (wr.alloc o) := fun o => (Below.refl _ wr).alloc (Nat.le_refl _) o
          obtain ⟨np', rfl⟩ : ∃ m, np = m + 1 := by
            match np, hRy with
            | m + 1, _ => exact ⟨m, rfl⟩
          obtain ⟨_, _, _, _, E1, ⟨y1, y2, y3, y4, y5⟩, hsy, hry⟩ := hRy
          injection E1 with E1
          have E1' : [Value.int .i64 y.k, .string y.s, .slice an1 y.ns.length cn1, .slice ap1 y.ps.length cp1] = _ := congrArg Array.toList E1
          simp only [List.cons.injEq, Value.slice.injEq, true_and, and_true] at E1'
          obtain ⟨⟨rfl, rfl⟩, rfl, rfl⟩ := E1'
          clear E1 hok hokP hown
          obtain ⟨newsN, hnl, hne, hnA, hn1⟩ := names_cells hsy
          have hnA1 : ∀ o, 0 < y.ns.length → ∃ b off, an1 = some ⟨b, off, none⟩ ∧ ∀ j u, newsN[j]? = some u → (wr.alloc o).cell? ⟨b, off + j, none⟩ = some u := fun o hp => by
            obtain ⟨b, off, e, hc⟩ := hnA hp
            obtain ⟨b', off', e', hd, _⟩ := hsy hp
            rw [e] at e'
            obtain ⟨rfl, rfl⟩ : b = b' ∧ off = off' := by injection e' with e'; injection e' with e1 e2; exact ⟨e1, e2⟩
            exact ⟨b, off, e, fun j u hu => ((hbA o).cell (p := ⟨b, off + j, none⟩) hd.1).trans (hc j u hu)⟩
          have HSY := Lib.hid hsy
          have HRY := Lib.hid hry
          have HNE := Lib.hid hne
          have HNL := Lib.hid hnl
          have HCS := Lib.hid hcs
          clear hsy hry hne hnA hnl hcs
          go_wp2_with (at_builtin; refine app_fresh rfl _ _ 22 rfl 9 i3 (.string ⟨#[]⟩) 1 16 Tryd.underlying22 hi3 hz30 hz31 hz32 rfl (by decide) rfl an1 y.ns.length cn1 newsN rfl HNL.out (hnA1 _) hn1 (by unfold maxLen; omega) (by omega) ?_)
          intro v2 w2 hrow2 hb2
          have bel2 : Below wr.heap.size wr w2 := (hbA _).trans (hb2.mono (by simp))
          have hbx : w2.heap[wr.heap.size]? = some (.cells #[.int .i64 y.k, .string y.s, .slice an1 y.ns.length cn1, .slice ap1 y.ps.length cp1] 25 (0, 0)) := (hb2.block _ (by simp)).trans (heap_alloc_new _ _)
          have hz2 := bel2.size
          have hbl2 : wr.heap.size < w2.heap.size := (Array.getElem?_eq_some_iff.1 hbx).1
          obtain ⟨a2, c2, rfl, hc2, hg2⟩ := fresh_row hrow2
          have hD2 : ∀ b, Dm wr (XB B w.heap.size) go1 b → Dm w2 (XB B w.heap.size) go1 b := fun b hd => ⟨Nat.lt_of_lt_of_le hd.1 hz2, hd.2⟩
          have hk2 : ∀ b o, Dm wr (XB B w.heap.size) go1 b → w2.cell? ⟨b, o, none⟩ = wr.cell? ⟨b, o, none⟩ := fun b o hd => bel2.cell (p := ⟨b, o, none⟩) hd.1
          have hsO : StrsD w2 (Dm w2 (XB B w.heap.size) go1) an1 y.ns := fun hp => by
            obtain ⟨b, off, e, hb, hc⟩ := HSY.out hp
            exact ⟨b, off, e, hD2 b hb, fun k z hz => ⟨(hc k z hz).1, (hk2 b _ hb).trans (hc k z hz).2⟩⟩
          have hsN : StrsD w2 (Dm w2 (XB B w.heap.size) go1) a2 y.ns := fun hp => by
            obtain ⟨g, e, hgb, hgl2, _, hgc⟩ := hg2 hp
            have hgb' : wr.heap.size + 1 ≤ g := by simpa using hgb
            refine ⟨g, 0, e, ⟨hgl2, by omega, fun h => by have h2 := h.2; omega⟩, fun k z hz => ?_⟩
            obtain ⟨b, off, _, _, hc⟩ := HSY.out hp
            have hkl : k < y.ns.length := (List.getElem?_eq_some_iff.1 hz).1
            refine ⟨(hc k z hz).1, ?_⟩
            rw [Nat.zero_add, hgc k (by omega), HNE.out, List.getElem?_map, hz]
            rfl
          have hry2 : Rows4D w2 (Dm w2 (XB B w.heap.size) go1) (RdD w2 (Dm w2 (XB B w.heap.size) go1) np') ap1 y.ps := HRY.out.step hD2 hk2
          have e2 : w2.cell? ⟨gp, j * 4 + 2, none⟩ = some (.slice an1 y.ns.length cn1) := (bel2.cell (p := ⟨gp, j * 4 + 2, none⟩) hgl).trans f2
          have e3 : w2.cell? ⟨gp, j * 4 + 3, none⟩ = some (.slice ap1 y.ps.length cp1) := (bel2.cell (p := ⟨gp, j * 4 + 3, none⟩) hgl).trans f3
          have z2 : ∀ k, w2.frozen? ⟨gp, k, none⟩ = false := fun k => (bel2.frozen (p := ⟨gp, k, none⟩) hgl).trans (hfz k)
          have x3 : w2.cell? ⟨wr.heap.size, 3, none⟩ = some (.slice ap1 y.ps.length cp1) := Lib.cell_of_heap hbx 3
          have hgx : wr.heap.size ≠ gp := by omega
          have R3 := Redir.names (p := ⟨gp, j * 4 + 2, none⟩) (cn' := c2) e2 hsO hsN hc2 (World.cell?_setCell_same _ _ _ e2)
          have hcs3 := (HCS.out.below bel2).set (g := gp) (o := j * 4 + 2) _ _ hglo (fun go h => by rw [hgo] at h; injection h with h; omega) (fun go h => by rw [hgo] at h; injection h with h; subst h; exact R3)
          have hry3 := R3.rows4 hry2
          have hsz3 : (w2.setCell ⟨gp, j * 4 + 2, none⟩ (.slice a2 y.ns.length c2)).heap.size = w2.heap.size := by simp [World.setCell]
          have hD3 : Dm (w2.setCell ⟨gp, j * 4 + 2, none⟩ (.slice a2 y.ns.length c2)) (XB B w.heap.size) go1 = Dm w2 (XB B w.heap.size) go1 := by unfold Dm; rw [hsz3]
          have g3 : (w2.setCell ⟨gp, j * 4 + 2, none⟩ (.slice a2 y.ns.length c2)).cell? ⟨gp, j * 4 + 3, none⟩ = some (.slice ap1 y.ps.length cp1) := (R3.same gp (j * 4 + 3) (by intro e; injection e with _ e; omega)).trans e3
          have gz3 : ∀ k, (w2.setCell ⟨gp, j * 4 + 2, none⟩ (.slice a2 y.ns.length c2)).frozen? ⟨gp, k, none⟩ = false := fun k => (World.frozen?_setCell _ _ _ _).trans (z2 k)
          have gx3 : (w2.setCell ⟨gp, j * 4 + 2, none⟩ (.slice a2 y.ns.length c2)).cell? ⟨wr.heap.size, 3, none⟩ = some (.slice ap1 y.ps.length cp1) := (R3.same wr.heap.size 3 (by intro e; injection e with e _; omega)).trans x3
          obtain ⟨newsL, hll, hlA, hl1⟩ := rows_cells hry3
          have HLL2 := Lib.hid hll
          have HRY3 := Lib.hid hry3
          have HCS3 := Lib.hid hcs3
          clear hry3 hcs3 hll R3 hsO hsN hry2 hg2 hrow2 hD2 hk2 f0 f1 f2 f3 hbx HSY HRY HNE HNL HCS hnA1
          go_wp2_with (at_builtin; refine app_fresh rfl _ _ 23 rfl 25 i2 (.agg #[.int .i64 0, .string ⟨#[]⟩, .slice none 0 0, .slice none 0 0]) 4 72 Tryd.underlying23 hi2 hz20 hz21 hz22 rfl (by decide) rfl ap1 y.ps.length cp1 newsL rfl HLL2.out hlA hl1 (by unfold maxLen; omega) (by omega) ?_)
          intro v4 w4 hrow4 hb4'
          generalize hW3 : w2.setCell ⟨gp, j * 4 + 2, none⟩ (.slice a2 y.ns.length c2) = W3 at *
          have hz4 := hb4'.size
          obtain ⟨a4, c4, rfl, hc4, hg4⟩ := fresh_row hrow4
          have e4 : w4.cell? ⟨gp, j * 4 + 3, none⟩ = some (.slice ap1 y.ps.length cp1) := (hb4'.cell (p := ⟨gp, j * 4 + 3, none⟩) (by show gp < _; omega)).trans g3
          have z4 : ∀ k, w4.frozen? ⟨gp, k, none⟩ = false := fun k => (hb4'.frozen (p := ⟨gp, k, none⟩) (by show gp < _; omega)).trans (gz3 k)
          have x4 : w4.cell? ⟨wr.heap.size, 3, none⟩ = some (.slice ap1 y.ps.length cp1) := (hb4'.cell (p := ⟨wr.heap.size, 3, none⟩) (by show wr.heap.size < _; omega)).trans gx3
          have hD4 : ∀ b, Dm w2 (XB B w.heap.size) go1 b → Dm w4 (XB B w.heap.size) go1 b := fun b hd => ⟨by have := hd.1; omega, hd.2⟩
          have hk4 : ∀ b o, Dm w2 (XB B w.heap.size) go1 b → w4.cell? ⟨b, o, none⟩ = W3.cell? ⟨b, o, none⟩ := fun b o hd => hb4'.cell (p := ⟨b, o, none⟩) (by have := hd.1; show b < _; omega)
          have hry4 := HRY3.out.step hD4 hk4
          have hcs4 := HCS3.out.below (w' := w4) (by rw [hsz3]; exact hb4')
          have HN := Lib.hid (nodes_step np' xsp j hlt)
          rw [show xsp[j] = y from HY.out] at HN
          have hes1 : es1.length ≤ 2000001 := by
            have h1 := mC_len es1
            have h2 := HWT.out
            have h3 := hM.out
            omega
          by_cases hp : 0 < y.ps.length
          · obtain ⟨g4, rfl, hgb4, hgl4, hfz4, hgc4⟩ := hg4 hp
            have hgb4' : w2.heap.size ≤ g4 := by omega
            have R5 := Redir.parts (p := ⟨gp, j * 4 + 3, none⟩) (cp' := c4) (g := g4) e4 hry4 (v' := some ⟨g4, 0, none⟩) (fun _ => ⟨rfl, ⟨hgl4, by omega, fun h => by have h2 := h.2; omega⟩, by show g4 ≠ gp; omega⟩) (fun b off _ ea k hk => by
              obtain ⟨b', off', ea', hcl⟩ := hlA hp
              rw [ea] at ea'
              obtain ⟨rfl, rfl⟩ : b = b' ∧ off = off' := by injection ea' with ea'; injection ea' with e1 e2; exact ⟨e1, e2⟩
              have hkl : k < newsL.length := by rw [HLL2.out]; exact hk
              have h1 := hcl k _ (List.getElem?_eq_getElem hkl)
              rw [hgc4 k hk, List.getElem?_eq_getElem hkl]
              obtain ⟨b2, off2, ea2, hd, _⟩ := HRY3.out hp
              rw [ea] at ea2
              obtain ⟨rfl, rfl⟩ : b = b2 ∧ off = off2 := by injection ea2 with ea2; injection ea2 with e1 e2; exact ⟨e1, e2⟩
              rw [hk4 b _ hd]
              exact h1.symm) hc4 (World.cell?_setCell_same _ _ _ e4)
            have hcs5 := hcs4.set (g := gp) (o := j * 4 + 3) _ _ hglo (fun go h => by rw [hgo] at h; injection h with h; omega) (fun go h => by rw [hgo] at h; injection h with h; subst h; exact R5)
            have hsz5 : (w4.setCell ⟨gp, j * 4 + 3, none⟩ (.slice (some ⟨g4, 0, none⟩) y.ps.length c4)).heap.size = w4.heap.size := by simp [World.setCell]
            have hD5 : Dm (w4.setCell ⟨gp, j * 4 + 3, none⟩ (.slice (some ⟨g4, 0, none⟩) y.ps.length c4)) (XB B w.heap.size) go1 = Dm w4 (XB B w.heap.size) go1 := by unfold Dm; rw [hsz5]
            have hok5 : ∀ go, u4.ownBlock = some go → CE.Ok (w4.setCell ⟨gp, j * 4 + 3, none⟩ (.slice (some ⟨g4, 0, none⟩) y.ps.length c4)) (XB B w.heap.size) go (w.heap.size + 2) ⟨g4, c4, np', y.ps⟩ := fun go h => by
              rw [hgo] at h
              injection h with h
              subst h
              refine ⟨by show _ ≤ g4; omega, by show g4 < _; omega, by show g4 ≠ _; omega, (fun h => by have h2 : g4 < w.heap.size + 2 := h.2; omega), fun k => (World.frozen?_setCell _ _ _ _).trans (hfz4 k), y3, hc4, ?_⟩
              rw [hD5]
              obtain ⟨a', c', ev, _, hr5⟩ := R5.rows np' y.ps ap1 cp1 rfl hry4 (fun x v hv => R5.rd hv)
              injection ev with ev
              subst ev
              exact hr5
            have hp' : decide (0 < y.ps.length) = true := by simpa using hp
            have g5 : (w4.setCell ⟨gp, j * 4 + 3, none⟩ (.slice (some ⟨g4, 0, none⟩) y.ps.length c4)).cell? ⟨gp, j * 4 + 3, none⟩ = some (.slice (some ⟨g4, 0, none⟩) y.ps.length c4) := World.cell?_setCell_same _ _ _ e4
            have gx5 : (w4.setCell ⟨gp, j * 4 + 3, none⟩ (.slice (some ⟨g4, 0, none⟩) y.ps.length c4)).cell? ⟨wr.heap.size, 3, none⟩ = some (.slice ap1 y.ps.length cp1) := (R5.same wr.heap.size 3 (by intro e; injection e with e _; omega)).trans x4
            have hown5 : (w4.setCell ⟨gp, j * 4 + 3, none⟩ (.slice (some ⟨g4, 0, none⟩) y.ps.length c4)).ownsRow (w.heap.size + 2) 23 1 u4 es1.length (es1.map CE.cell) := by
              obtain ⟨_, h, _⟩ := hcs5
              exact h
            have HCS5 := Lib.hid hcs5
            have HOK5 := Lib.hid hok5
            clear hcs5 hok5 R5 hry4 hcs4 hg4 HRY3 HCS3 hlA hl1 hgc4 hD5 hD3 g3 gz3 gx3 hb4' hk4 hD4 e2 e3 z2 x3 hb2 bel2 hbw hfz
            go_wp2_with (at_builtin; refine wpList_append_own_at _ rfl _ _ 66 rfl (w.heap.size + 2) 23 i1 (.slice none 0 0) 1 24 Tryd.underlying66 hi1 hz10 hz11 hz12 rfl (by decide) u4 es1.length (es1.map CE.cell) rfl (hown5.alloc _) ⟨w4.heap.size, 0, none⟩ 1 1 [.slice (some ⟨g4, 0, none⟩) y.ps.length c4] rfl rfl ?c1 (fun u hu => by simp at hu; subst hu; rfl) (by unfold maxLen; omega) (by omega) (by simp; omega) ?_)
            case c1 =>
              have := cell_one_new (w4.setCell ⟨gp, j * 4 + 3, none⟩ (.slice (some ⟨g4, 0, none⟩) y.ps.length c4)) (.slice (some ⟨g4, 0, none⟩) y.ps.length c4) 23
              rw [hsz5] at this
              exact this
            intro v7 w7 hown7 hgrow7 _ hlie7
            have hcs7 := HCS5.out.push ⟨g4, c4, np', y.ps⟩ HOK5.out hown7 (by rw [hgo]; exact hgrow7) (by rw [hgo]; simpa using hlie7)
            go_wp2_with fail
            go_roundg (xsp.length - (j + 1))
            case measure => omega
            case rel => exact ⟨j + 1, es1 ++ [⟨g4, c4, np', y.ps⟩], rfl, by show j + 1 ≤ xsp.length; omega, by go_num, hcs7, by
              rw [mC_snoc]
              have h1 : mC es1 + 1 + ((xsp.drop j).map (nodes (np' + 1))).sum ≤ _ := HWT.out
              have h2 := HN.out
              show mC es1 + (1 + (y.ps.map (nodes np')).sum) + 1 + ((xsp.drop (j + 1)).map (nodes (np' + 1))).sum ≤ _
              have h3 : ((xsp.drop j).map (nodes (np' + 1))).sum = _ := h2
              omega⟩
          · have R5 := Redir.parts (p := ⟨gp, j * 4 + 3, none⟩) (cp' := c4) (g := 0) e4 hry4 (v' := a4) (fun h => absurd h hp) (fun _ _ h => absurd h hp) hc4 (World.cell?_setCell_same _ _ _ e4)
            have hcs5 := hcs4.set (g := gp) (o := j * 4 + 3) _ _ hglo (fun go h => by rw [hgo] at h; injection h with h; omega) (fun go h => by rw [hgo] at h; injection h with h; subst h; exact R5)
            have hp' : decide (0 < y.ps.length) = false := by simpa using hp
            have gx5 : (w4.setCell ⟨gp, j * 4 + 3, none⟩ (.slice a4 y.ps.length c4)).cell? ⟨wr.heap.size, 3, none⟩ = some (.slice ap1 y.ps.length cp1) := (R5.same wr.heap.size 3 (by intro e; injection e with e _; omega)).trans x4
            have HCS5 := Lib.hid hcs5
            clear hcs5 R5 hry4 hcs4 hg4 HRY3 HCS3 hlA hl1 hD3 g3 gz3 gx3 hb4' hk4 hD4 e2 e3 z2 x3 hb2 bel2 hbw hfz
            go_wp2_with fail
            go_roundg (xsp.length - (j + 1))
            case measure => omega
            case rel => exact ⟨j + 1, es1, rfl, by show j + 1 ≤ xsp.length; omega, by go_num, HCS5.out, by
              have h1 : mC es1 + 1 + ((xsp.drop j).map (nodes (np' + 1))).sum ≤ _ := HWT.out
              have h2 := HN.out
              show mC es1 + 1 + ((xsp.drop (j + 1)).map (nodes (np' + 1))).sum ≤ _
              have h3 : ((xsp.drop j).map (nodes (np' + 1))).sum = _ := h2
              omega⟩
        · go_wp2_with fail
          go_roundg (mC es1)
          case measure => have := HWT.out; omega
          case rel => exact ⟨es1, rfl, by have := HWT.out; have h2 := hM.out; omega, hcs.lose⟩

end Go.Proofs.YthmoadkkadlefaaDoor
