/-
  What jval.Same answers: whether two values are one.
-/
import Derived.Test.YthmoadkkadlefaaDoorSame
import Derived.Deep.LoopGhost
import Derived.BigRegion
import Derived.OneCell
import Derived.Deep.AppendLies
import Derived.Laws.OwnMore
namespace Go.Proofs.YthmoadkkadlefaaDoor
open Go.RowKit

theorem JV.eq_iff (x y : JV) : x = y ↔ selfSame x y = true ∧ x.ps = y.ps := by
  constructor
  · rintro rfl
    exact ⟨by simp [selfSame], rfl⟩
  · rintro ⟨h, hp⟩
    cases x; cases y
    simp only [selfSame, JV.k, JV.s, JV.ns, JV.ps, Bool.and_eq_true] at h hp
    obtain ⟨h1, h2, h3, _⟩ := h
    have e1 := of_decide_eq_true h1
    have e2 := of_decide_eq_true h2
    have e3 := of_decide_eq_true h3
    clear h1 h2 h3
    subst e1 e2 e3 hp
    rfl

noncomputable def sameB (x y : JV) : Bool := @decide (x = y) (Classical.propDecidable _)
theorem sameB_true {x y : JV} (h : x = y) : sameB x y = true := by unfold sameB; exact @decide_eq_true _ (Classical.propDecidable _) h
theorem sameB_false {x y : JV} (h : ¬ x = y) : sameB x y = false := by unfold sameB; exact @decide_eq_false _ (Classical.propDecidable _) h

/-- Two lists that are still to be held against each other. -/
structure Ent where
  a : Option Addr
  ca : Nat
  b : Option Addr
  cb : Nat
  n : Nat
  xs : List JV
  ys : List JV
def Ent.cells (e : Ent) : List Value := [.slice e.a e.xs.length e.ca, .slice e.b e.ys.length e.cb]
def flatE (es : List Ent) : List Value := es.flatMap Ent.cells
theorem flatE_length (es : List Ent) : (flatE es).length = es.length * 2 := by
  induction es with
  | nil => rfl
  | cons e r ih =>
    show (Ent.cells e ++ flatE r).length = _
    rw [List.length_append, ih, List.length_cons]
    show 2 + _ = _
    omega
theorem flatE_snoc (es : List Ent) (e : Ent) : flatE (es ++ [e]) = flatE es ++ e.cells := by simp [flatE]
noncomputable def mE (es : List Ent) : Nat := (es.map fun e => SizeOf.sizeOf e.xs).sum
theorem mE_snoc (es : List Ent) (e : Ent) : mE (es ++ [e]) = mE es + SizeOf.sizeOf e.xs := by simp [mE]

structure Ent.Ok (w : World) (B : Nat) (e : Ent) : Prop where
  len : e.xs.length = e.ys.length
  big : e.xs.length ≤ 2000000
  ca : e.xs.length ≤ e.ca
  cb : e.ys.length ≤ e.cb
  ra : Rows4 w B (Rd w B e.n) e.a e.xs
  rb : Rows4 w B (Rd w B e.n) e.b e.ys
theorem Ent.Ok.below {w w' : World} {B : Nat} {e : Ent} (h : e.Ok w B) (hb : Below B w w') : e.Ok w' B := ⟨h.len, h.big, h.ca, h.cb, h.ra.below hb, h.rb.below hb⟩

def SameRel (B N : Nat) (W0 : World) (x y : JV) (k : Nat) (v : Value) (wr : World) : Prop :=
  ∃ es : List Ent, k = mE es ∧ wr.ownsRow B 57 2 v es.length (flatE es) ∧ (∀ e ∈ es, e.Ok wr B) ∧ (∀ j e, es[j]? = some e → e.n + j = N) ∧ Below B W0 wr ∧ (x = y ↔ ∀ e ∈ es, e.xs = e.ys)

theorem sizeOf_ps (x : JV) : SizeOf.sizeOf x.ps < SizeOf.sizeOf x := by
  cases x
  simp [JV.ps]
  omega

/-- A list's rest. -/
theorem Rows4.tail {w : World} {B : Nat} {R : JV → Value → Prop} {b off : Nat} {x : JV} {r : List JV} (h : Rows4 w B R (some ⟨b, off, none⟩) (x :: r)) (a : Option Addr) (ha : 0 < r.length → a = some ⟨b, off + 4, none⟩) : Rows4 w B R a r := by
  intro hp
  obtain ⟨b', off', e, hb, hc⟩ := h (by simp)
  injection e with e
  injection e with e1 e2
  subst e1 e2
  refine ⟨b, off + 4, ha hp, hb, fun i y hy => ?_⟩
  obtain ⟨c0, c1, c2, c3, h4, hR⟩ := hc (i + 1) y (by simpa using hy)
  refine ⟨c0, c1, c2, c3, ?_, hR⟩
  have e : off + 4 + i * 4 = off + (i + 1) * 4 := by omega
  rw [e]
  exact h4

theorem tail_run (b off n c : Nat) (hn : n + 1 ≤ c) : ∃ a : Option Addr, (∀ W, (Instr.slice 23 (.slice (some ⟨b, off, none⟩) (n + 1) c) (some (.int .i64 1)) none none).run Tryd.prog W = .ok (.slice a n (c - 1)) W) ∧ (0 < n → a = some ⟨b, off + 4, none⟩) := by
  by_cases hc : c = 1
  · refine ⟨some ⟨b, off, none⟩, fun W => ?_, fun h => by omega⟩
    subst hc
    obtain rfl : n = 0 := by omega
    go_simp
  · refine ⟨some ⟨b, off + 4, none⟩, fun W => ?_, fun h => rfl⟩
    go_simp
    intro h
    omega

theorem set_two {α : Type} (l : List α) (a b c d : α) (k : Nat) (hk : l.length = k) : ((l ++ [a, b]).set k c).set (k + 1) d = l ++ [c, d] := by
  subst hk
  rw [List.set_append_right _ _ (Nat.le_refl _), List.set_append_right _ _ (by omega)]
  simp

theorem mE_push (es : List Ent) (e0 : Ent) (x1 : JV) (xr : List JV) (h : e0.xs = x1 :: xr) : mE es + (SizeOf.sizeOf xr + SizeOf.sizeOf x1.ps) < mE (es ++ [e0]) := by
  rw [mE_snoc, h, List.cons.sizeOf_spec]
  have := sizeOf_ps x1
  omega
theorem mE_two (es : List Ent) (e1 e2 : Ent) : mE (es ++ [e1] ++ [e2]) = mE es + (SizeOf.sizeOf e1.xs + SizeOf.sizeOf e2.xs) := by
  rw [mE_snoc, mE_snoc, Nat.add_assoc]
theorem iff_rest {es : List Ent} {P : Prop} {e0 e1 : Ent} (h : P ↔ ∀ e ∈ es ++ [e0], e.xs = e.ys) (h01 : e0.xs = e0.ys ↔ e1.xs = e1.ys) : P ↔ ∀ e ∈ es ++ [e1], e.xs = e.ys := by
  rw [h]
  constructor
  · intro hh e he
    rcases List.mem_append.1 he with he | he
    · exact hh e (by simp [he])
    · simp at he; subst he; exact h01.1 (hh e0 (by simp))
  · intro hh e he
    rcases List.mem_append.1 he with he | he
    · exact hh e (by simp [he])
    · simp at he; subst he; exact h01.2 (hh e1 (by simp))
theorem iff_push {es : List Ent} {P : Prop} {e0 e1 e2 : Ent} (h : P ↔ ∀ e ∈ es ++ [e0], e.xs = e.ys) (h01 : e0.xs = e0.ys ↔ e1.xs = e1.ys ∧ e2.xs = e2.ys) : P ↔ ∀ e ∈ es ++ [e1] ++ [e2], e.xs = e.ys := by
  rw [h]
  constructor
  · intro hh e he
    rcases List.mem_append.1 he with he | he
    · rcases List.mem_append.1 he with he | he
      · exact hh e (by simp [he])
      · simp at he; subst he; exact (h01.1 (hh e0 (by simp))).1
    · simp at he; subst he; exact (h01.1 (hh e0 (by simp))).2
  · intro hh e he
    rcases List.mem_append.1 he with he | he
    · exact hh e (by simp [he])
    · simp at he; subst he; exact h01.2 ⟨hh e1 (by simp), hh e2 (by simp)⟩
theorem cons_iff {x1 y1 : JV} (h : selfSame x1 y1 = true) (xr yr : List JV) : x1 :: xr = y1 :: yr ↔ xr = yr ∧ x1.ps = y1.ps := by
  rw [List.cons.injEq, JV.eq_iff x1 y1]
  constructor
  · rintro ⟨⟨_, a⟩, b⟩; exact ⟨b, a⟩
  · rintro ⟨a, b⟩; exact ⟨⟨h, b⟩, a⟩
theorem self_len {x1 y1 : JV} (h : selfSame x1 y1 = true) : x1.ps.length = y1.ps.length := by
  simp only [selfSame, Bool.and_eq_true] at h
  exact of_decide_eq_true h.2.2.2
theorem get_snoc {α : Type} {es : List α} {e1 e : α} {j : Nat} (h : (es ++ [e1])[j]? = some e) : es[j]? = some e ∨ (j = es.length ∧ e = e1) := by
  by_cases hj : j < es.length
  · rw [List.getElem?_append_left hj] at h; exact .inl h
  · rw [List.getElem?_append_right (by omega)] at h
    match hk : j - es.length, h with
    | 0, h => simp at h; exact .inr ⟨by omega, h.symm⟩
    | k + 1, h => simp at h

theorem snoc_cases {α : Type} (l : List α) : l = [] ∨ ∃ i e, l = i ++ [e] := by
  rcases List.eq_nil_or_concat l with h | ⟨i, e, h⟩
  · exact .inl h
  · exact .inr ⟨i, e, by rw [h]; simp⟩

theorem infoPair : (Tryd.prog.info? 57).map (fun i => (i.zero, i.size, i.bytes)) = some (some (.agg #[.slice none 0 0, .slice none 0 0]), 2, 48) := by kernel_rfl

set_option maxHeartbeats 2000000 in
set_option maxRecDepth 100000 in
theorem same_any (B n : Nat) (x y : JV) (v u : Value) (w : World) (hB : B ≤ w.heap.size) (hn : n ≤ 1000000) (h : Rd w B n x v) (h' : Rd w B n y u) :
    Calls Tryd.prog 17 #[v, u] w (BoolBelow (sameB x y) w) := by
  obtain ⟨i0, hi, hz0, hz1, hz2⟩ := info_parts infoPair
  have H0 := h
  have H0' := h'
  obtain ⟨an, cn, ap, cp, rfl⟩ := h.shape
  obtain ⟨an', cn', ap', cp', rfl⟩ := h'.shape
  go_enter Tryd.func17, Tryd.ntmps17
  go_wp2_with fail
  have hbA : ∀ o1 o2 o3 o4 o5, Below w.heap.size w (((((w.alloc o1).alloc o2).alloc o3).alloc o4).alloc o5) := fun o1 o2 o3 o4 o5 => (((((Below.refl _ w).alloc (Nat.le_refl _) o1).alloc (by simp) o2).alloc (by simp; omega) o3).alloc (by simp; omega) o4).alloc (by simp; omega) o5
  obtain ⟨W5, hW5⟩ : ∃ W5, W5 = (((((w.alloc (.cells #[.int .i64 x.k, .string x.s, .slice an x.ns.length cn, .slice ap x.ps.length cp] 25)).alloc (.cells #[.int .i64 y.k, .string y.s, .slice an' y.ns.length cn', .slice ap' y.ps.length cp'] 25)).alloc (.cells #[.int .i64 x.k, .string x.s, .slice an x.ns.length cn, .slice ap x.ps.length cp] 25)).alloc (.cells #[.int .i64 y.k, .string y.s, .slice an' y.ns.length cn', .slice ap' y.ps.length cp'] 25)).alloc (.cells #[.slice (some ⟨w.heap.size + 1 + 1, 0, none⟩) 1 1, .slice (some ⟨w.heap.size + 1 + 1 + 1, 0, none⟩) 1 1] 57)) := ⟨_, rfl⟩
  rw [← hW5]
  have hb5 : Below w.heap.size w W5 := by rw [hW5]; exact hbA _ _ _ _ _
  have hs5 : W5.heap.size = w.heap.size + 5 := by rw [hW5]; simp
  have hown5 : W5.ownsRow (w.heap.size + 4) 57 2 (.slice (some ⟨w.heap.size + 1 + 1 + 1 + 1, 0, none⟩) 1 1) 1 [.slice (some ⟨w.heap.size + 1 + 1, 0, none⟩) 1 1, .slice (some ⟨w.heap.size + 1 + 1 + 1, 0, none⟩) 1 1] := by
    refine ⟨rfl, .inr ⟨w.heap.size + 1 + 1 + 1 + 1, 1, #[.slice (some ⟨w.heap.size + 1 + 1, 0, none⟩) 1 1, .slice (some ⟨w.heap.size + 1 + 1 + 1, 0, none⟩) 1 1], rfl, by omega, ?_, Nat.le_refl _, by unfold maxLen; omega, rfl, rfl⟩⟩
    rw [hW5]
    have := heap_alloc_new ((((w.alloc (.cells #[.int .i64 x.k, .string x.s, .slice an x.ns.length cn, .slice ap x.ps.length cp] 25)).alloc (.cells #[.int .i64 y.k, .string y.s, .slice an' y.ns.length cn', .slice ap' y.ps.length cp'] 25)).alloc (.cells #[.int .i64 x.k, .string x.s, .slice an x.ns.length cn, .slice ap x.ps.length cp] 25)).alloc (.cells #[.int .i64 y.k, .string y.s, .slice an' y.ns.length cn', .slice ap' y.ps.length cp'] 25)) (.cells #[.slice (some ⟨w.heap.size + 1 + 1, 0, none⟩) 1 1, .slice (some ⟨w.heap.size + 1 + 1 + 1, 0, none⟩) 1 1] 57)
    simpa using this
  have c2 : ∀ j, W5.cell? ⟨w.heap.size + 1 + 1, j, none⟩ = (#[Value.int .i64 x.k, .string x.s, .slice an x.ns.length cn, .slice ap x.ps.length cp] : Array Value)[j]? := fun j => by rw [hW5]; go_simp
  have c3 : ∀ j, W5.cell? ⟨w.heap.size + 1 + 1 + 1, j, none⟩ = (#[Value.int .i64 y.k, .string y.s, .slice an' y.ns.length cn', .slice ap' y.ps.length cp'] : Array Value)[j]? := fun j => by rw [hW5]; go_simp
  clear hW5
  have hR1 : Rd W5 (w.heap.size + 4) n x (.agg #[.int .i64 x.k, .string x.s, .slice an x.ns.length cn, .slice ap x.ps.length cp]) := (h.below (hb5.mono hB)).more (by omega)
  have hR2 : Rd W5 (w.heap.size + 4) n y (.agg #[.int .i64 y.k, .string y.s, .slice an' y.ns.length cn', .slice ap' y.ps.length cp']) := (h'.below (hb5.mono hB)).more (by omega)
  have hr1 : Rows4 W5 (w.heap.size + 4) (Rd W5 (w.heap.size + 4) n) (some ⟨w.heap.size + 1 + 1, 0, none⟩) [x] := fun _ =>
    ⟨_, 0, rfl, by omega, fun i z hz => by
      match i, hz with
      | 0, hz =>
        simp at hz
        subst hz
        exact ⟨_, _, _, _, ⟨c2 0, c2 1, c2 2, c2 3⟩, hR1⟩⟩
  have hr2 : Rows4 W5 (w.heap.size + 4) (Rd W5 (w.heap.size + 4) n) (some ⟨w.heap.size + 1 + 1 + 1, 0, none⟩) [y] := fun _ =>
    ⟨_, 0, rfl, by omega, fun i z hz => by
      match i, hz with
      | 0, hz =>
        simp at hz
        subst hz
        exact ⟨_, _, _, _, ⟨c3 0, c3 1, c3 2, c3 3⟩, hR2⟩⟩
  have hrel0 : SameRel (w.heap.size + 4) n W5 x y (SizeOf.sizeOf [x]) (.slice (some ⟨w.heap.size + 1 + 1 + 1 + 1, 0, none⟩) 1 1) W5 := by
    refine ⟨[⟨some ⟨w.heap.size + 1 + 1, 0, none⟩, 1, some ⟨w.heap.size + 1 + 1 + 1, 0, none⟩, 1, n, [x], [y]⟩], by simp [mE], hown5, ?_, ?_, Below.refl _ _, by simp⟩
    · intro e he
      simp at he
      subst he
      exact ⟨rfl, by simp, by simp, by simp, hr1, hr2⟩
    · intro j e he
      match j, he with
      | 0, he => simp at he; subst he; rfl
  clear hown5 c2 c3 hR1 hR2 hr1 hr2 h h' H0 H0' hbA
  go_loopg [5] (SizeOf.sizeOf [x]) (fun k v wr => SameRel (w.heap.size + 4) n W5 x y k v wr)
  case atStart => exact hrel0
  case round =>
    clear hrel0
    obtain ⟨es, rfl, hown, hok, hpos, hbw, hiff⟩ := hrel
    have hbw0 : Below w.heap.size w wr := hb5.trans (hbw.mono (by omega))
    rcases snoc_cases es with rfl | ⟨es, e, rfl⟩
    · obtain ⟨ao, cap, rfl⟩ : ∃ ao cap, u5 = .slice ao 0 cap := by
        rcases hown.2 with ⟨hv, _⟩ | ⟨g, cap, cur, hv, _⟩
        · exact ⟨_, _, hv⟩
        · exact ⟨_, _, hv⟩
      have HT := Lib.hid (sameB_true (hiff.2 (by simp)))
      clear hiff hown hok hpos
      go_wp2_with fail
      go_ret
      exact boolBelow_of HT.out.symm hbw0
    · have hL : e.n + es.length = n := hpos es.length e (by simp)
      have hoke : e.Ok wr (w.heap.size + 4) := hok e (by simp)
      rw [flatE_snoc, List.length_append, List.length_singleton] at hown
      obtain ⟨g, cap, rfl, hg, hglt⟩ := hown.form (by omega)
      have d0 : wr.cell? ⟨g, es.length * 2, none⟩ = some (.slice e.a e.xs.length e.ca) := by
        rw [hown.cellAt _ (by omega), List.getElem?_append_right (by rw [flatE_length]; exact Nat.le_refl _), flatE_length, Nat.sub_self]; rfl
      have d1 : wr.cell? ⟨g, es.length * 2 + 1, none⟩ = some (.slice e.b e.ys.length e.cb) := by
        rw [hown.cellAt _ (by omega), List.getElem?_append_right (by rw [flatE_length]; omega), flatE_length, Nat.add_sub_cancel_left]; rfl
      have hcap : es.length + 1 ≤ cap := by
        rcases hown.2 with ⟨hv, _⟩ | ⟨g', cap', cur, hv, _, _, hc, _⟩
        · cases hv
        · cases hv; exact hc
      have FL := Lib.hid (flatE_length es)
      generalize hl : es.length = l at hL d0 d1 hcap hown ⊢
      have HL := Lib.hid hl
      have hln : l ≤ 1000000 := by omega
      have HLN := Lib.hid hL
      clear hl hL
      have HI := Lib.hid hiff
      have HOK := Lib.hid hok
      have HPOS := Lib.hid hpos
      have HOWN := Lib.hid hown
      clear hiff hok hpos hown
      obtain ⟨ea, eca, eb, ecb, en, exs, eys⟩ := e
      dsimp only at hoke d0 d1 HLN
      cases exs with
      | nil =>
        clear hoke
        go_wp2_with fail
        go_roundg (mE es)
        case measure => rw [mE_snoc]; simp
        case rel =>
          refine ⟨es, rfl, ?_, fun e he => HOK.out e (by simp [he]), fun j e he => HPOS.out j e ?_, hbw, HI.out.trans ?_⟩
          · have := HOWN.out
            rw [← HL.out] at this ⊢
            exact ownsRow_pop FL.out this
          · rw [List.getElem?_append_left (Array.getElem?_eq_some_iff.1 (by simpa using he : es.toArray[j]? = some e)).1]; exact he
          · have hy : eys = [] := by
              have := (HOK.out ⟨ea, eca, eb, ecb, en, [], eys⟩ (by simp)).len
              exact List.eq_nil_of_length_eq_zero this.symm
            subst hy
            constructor
            · intro h e he; exact h e (by simp [he])
            · intro h e he
              rcases List.mem_append.1 he with he | he
              · exact h e he
              · simp at he; subst he; rfl
      | cons x1 xr =>
        cases eys with
        | nil => exact absurd hoke.len (by simp)
        | cons y1 yr =>
          obtain ⟨b1, o1, x1', an1, cn1, ap1, cp1, HX1, rfl, hb1, hR1, f0, f1, f2, f3⟩ := hoke.ra.elem (i := 0) (by simp) (Below.refl _ _)
          obtain ⟨b2, o2, y1', an2, cn2, ap2, cp2, HY1, rfl, hb2, hR2, k0, k1, k2, k3⟩ := hoke.rb.elem (i := 0) (by simp) (Below.refl _ _)
          obtain rfl : x1 = x1' := HX1.out
          obtain rfl : y1 = y1' := HY1.out
          clear HX1 HY1
          rw [Nat.zero_mul, Nat.add_zero] at f0 f1 f2 f3 k0 k1 k2 k3
          obtain ⟨a1, hrun1, ha1⟩ := tail_run b1 o1 xr.length eca hoke.ca
          obtain ⟨a2, hrun2, ha2⟩ := tail_run b2 o2 yr.length ecb hoke.cb
          have hss := fun W (hb : Below wr.heap.size wr W) => sameSelf_any (w.heap.size + 4) en en x1 y1 _ _ W (Nat.le_trans (by omega) hb.size) (hR1.below (hb.mono (by omega))) (hR2.below (hb.mono (by omega)))
          have HA1 := Lib.hid ha1
          have HA2 := Lib.hid ha2
          have HOKE := Lib.hid hoke
          clear hoke ha1 ha2
          have hws : w.heap.size + 5 ≤ wr.heap.size := by have := hbw.size; omega
          have l1 : b1 < wr.heap.size := by omega
          have l1' : b1 < wr.heap.size + 1 := by omega
          have l2 : b2 < wr.heap.size := by omega
          have l2' : b2 < wr.heap.size + 1 := by omega
          have l3' : g < wr.heap.size + 1 := by omega
          have hbA2 : ∀ o o', Below wr.heap.size wr ((wr.alloc o).alloc o').drew := fun o o' => (((Below.refl _ wr).alloc (Nat.le_refl _) o).alloc (by simp) o').drew
          go_wp2_with fail
          go_region
          all_goals
            go_wp2_with fail
            refine (hss _ (hbA2 _ _)).mono ?_
            rintro e W3 ⟨rfl, b3⟩
            have bel3 : Below wr.heap.size wr W3 := (hbA2 _ _).trans (b3.mono (by simp; omega))
            first
              | (have hx3 : W3.cell? ⟨wr.heap.size, 3, none⟩ = some (.slice ap1 x1.ps.length cp1) := by
                   rw [b3.cell (p := ⟨wr.heap.size, 3, none⟩) (by simp; omega)]
                   go_simp
                   done
                 have hy3 : W3.cell? ⟨wr.heap.size + 1, 3, none⟩ = some (.slice ap2 y1.ps.length cp2) := by
                   rw [b3.cell (p := ⟨wr.heap.size + 1, 3, none⟩) (by simp)]
                   go_simp
                   done)
              | (have hx3 : W3.cell? ⟨wr.heap.size + 1, 3, none⟩ = some (.slice ap1 x1.ps.length cp1) := by
                   rw [b3.cell (p := ⟨wr.heap.size + 1, 3, none⟩) (by simp)]
                   go_simp
                   done
                 have hy3 : W3.cell? ⟨wr.heap.size, 3, none⟩ = some (.slice ap2 y1.ps.length cp2) := by
                   rw [b3.cell (p := ⟨wr.heap.size, 3, none⟩) (by simp; omega)]
                   go_simp
                   done)
            have hz3 := b3.size
            simp only [World.size_drew, World.size_alloc] at hz3
            have hown3 : W3.ownsRow (w.heap.size + 4) 57 2 (.slice (some ⟨g, 0, none⟩) (l + 1) cap) (l + 1) (flatE es ++ Ent.cells ⟨some ⟨b1, o1, none⟩, eca, some ⟨b2, o2, none⟩, ecb, en, x1 :: xr, y1 :: yr⟩) := HOWN.out.kept (row := none) ⟨bel3.os, bel3.tape, bel3.output, bel3.size, fun j hj _ => bel3.block j hj⟩ (by simp [Value.ownBlock])
            have e0 : W3.cell? ⟨g, l * 2, none⟩ = some (.slice (some ⟨b1, o1, none⟩) (xr.length + 1) eca) := (bel3.cell (p := ⟨g, l * 2, none⟩) hglt).trans d0
            have e1 : W3.cell? ⟨g, l * 2 + 1, none⟩ = some (.slice (some ⟨b2, o2, none⟩) (yr.length + 1) ecb) := (bel3.cell (p := ⟨g, l * 2 + 1, none⟩) hglt).trans d1
            have fz : ∀ j, W3.frozen? ⟨g, j, none⟩ = false := fun j => hown3.frozenAt j
            clear hss b3 hbA2 d0 d1 f0 f1 f2 f3 k0 k1 k2 k3
            have hbel : Below (w.heap.size + 4) W5 W3 := hbw.trans (bel3.mono (by omega))
            have hbel0 : Below w.heap.size w W3 := hbw0.trans (bel3.mono (by omega))
            cases hsf : selfSame x1 y1 with
            | false =>
              have HF := Lib.hid (show false = sameB x y from (sameB_false fun hxy => by
                have := HI.out.1 hxy ⟨some ⟨b1, o1, none⟩, eca, some ⟨b2, o2, none⟩, ecb, en, x1 :: xr, y1 :: yr⟩ (by simp)
                simp only [List.cons.injEq] at this
                have := ((JV.eq_iff x1 y1).1 this.1).1
                rw [hsf] at this
                cases this).symm)
              go_wp2_with fail
              go_ret
              exact boolBelow_of HF.out hbel0
            | true =>
              have HSF := Lib.hid hsf
              clear hsf
              have g0 : W3.cell? ⟨g, l * 2, none⟩ = some (.slice (some ⟨b1, o1, none⟩) (xr.length + 1) eca) := e0
              go_wp2_with fail
              go_region
              generalize hW4 : ((W3.setCell ⟨g, l * 2, none⟩ (.slice a1 xr.length (eca - 1))).setCell ⟨g, l * 2 + 1, none⟩ (.slice a2 yr.length (ecb - 1))).drew = W4
              have hown4 : W4.ownsRow (w.heap.size + 4) 57 2 (.slice (some ⟨g, 0, none⟩) (l + 1) cap) (l + 1) (flatE es ++ [.slice a1 xr.length (eca - 1), .slice a2 yr.length (ecb - 1)]) := by
                rw [← hW4]
                have s1 := (hown3.stored (l * 2) (.slice a1 xr.length (eca - 1))).1
                have s2 := (s1.stored (l * 2 + 1) (.slice a2 yr.length (ecb - 1))).1
                have e : ((flatE es ++ Ent.cells ⟨some ⟨b1, o1, none⟩, eca, some ⟨b2, o2, none⟩, ecb, en, x1 :: xr, y1 :: yr⟩).set (l * 2) (.slice a1 xr.length (eca - 1))).set (l * 2 + 1) (.slice a2 yr.length (ecb - 1)) = flatE es ++ [.slice a1 xr.length (eca - 1), .slice a2 yr.length (ecb - 1)] :=
                  set_two _ _ _ _ _ (l * 2) (by rw [FL.out, HL.out])
                rw [e] at s2
                exact s2.drew
              have hbel4 : Below (w.heap.size + 4) W3 W4 := by
                rw [← hW4]
                exact (((Below.refl _ W3).setCell (p := ⟨g, l * 2, none⟩) hg _).setCell (p := ⟨g, l * 2 + 1, none⟩) hg _).drew
              have hcell4 : ∀ b j, b ≠ g → W4.cell? ⟨b, j, none⟩ = W3.cell? ⟨b, j, none⟩ := fun b j hne => by
                rw [← hW4]
                show ((W3.setCell ⟨g, l * 2, none⟩ _).setCell ⟨g, l * 2 + 1, none⟩ _).cell? _ = _
                rw [World.cell?_setCell_other _ _ _ _ (by intro e; have := congrArg Addr.block e; simp at this; omega), World.cell?_setCell_other _ _ _ _ (by intro e; have := congrArg Addr.block e; simp at this; omega)]
              have hx4 := (hcell4 _ _ (by omega)).trans hx3
              have hy4 := (hcell4 _ _ (by omega)).trans hy3
              have hz4 := hbel4.size
              clear hW4 hcell4 hx3 hy3 hown3 e0 e1 g0 fz hrun1 hrun2
              have hb04 : Below (w.heap.size + 4) W5 W4 := hbel.trans hbel4
              have hbw4 : Below (w.heap.size + 4) wr W4 := (bel3.mono (by omega)).trans hbel4
              obtain ⟨en', rfl⟩ : ∃ m, en = m + 1 := by
                match en, hR1 with
                | m + 1, _ => exact ⟨m, rfl⟩
              obtain ⟨_, _, _, _, E1, ⟨_, _, q3, _, q5⟩, _, hrx⟩ := hR1
              obtain ⟨_, _, _, _, E2, ⟨_, _, p3, _, p5⟩, _, hry⟩ := hR2
              injection E1 with E1
              injection E2 with E2
              have E1' : [Value.int .i64 x1.k, .string x1.s, .slice an1 x1.ns.length cn1, .slice ap1 x1.ps.length cp1] = _ := congrArg Array.toList E1
              have E2' : [Value.int .i64 y1.k, .string y1.s, .slice an2 y1.ns.length cn2, .slice ap2 y1.ps.length cp2] = _ := congrArg Array.toList E2
              simp only [List.cons.injEq, Value.slice.injEq, true_and, and_true] at E1' E2'
              obtain ⟨⟨rfl, rfl⟩, rfl, rfl⟩ := E1'
              obtain ⟨⟨rfl, rfl⟩, rfl, rfl⟩ := E2'
              clear E1 E2
              have hxl := self_len HSF.out
              have HXL := Lib.hid hxl
              have hok1 : Ent.Ok W4 (w.heap.size + 4) ⟨a1, eca - 1, a2, ecb - 1, en' + 1, xr, yr⟩ := by
                have h0 := HOKE.out
                have hl := h0.len
                have h1 := h0.big
                have h2 := h0.ca
                have h3 := h0.cb
                simp only [List.length_cons] at hl h1 h2 h3
                refine ⟨by show xr.length = yr.length; omega, by show xr.length ≤ _; omega, by show xr.length ≤ eca - 1; omega, by show yr.length ≤ ecb - 1; omega, (h0.ra.tail a1 HA1.out).below hbw4, (h0.rb.tail a2 HA2.out).below hbw4⟩
              have hok2 : Ent.Ok W4 (w.heap.size + 4) ⟨ap1, cp1, ap2, cp2, en', x1.ps, y1.ps⟩ := ⟨hxl, q3, q5, p5, hrx.below hbw4, hry.below hbw4⟩
              have hoks : ∀ e ∈ es, e.Ok W4 (w.heap.size + 4) := fun e he => (HOK.out e (by simp [he])).below hbw4
              have hposs : ∀ j e, es[j]? = some e → e.n + j = n := fun j e he => HPOS.out j e (by rw [List.getElem?_append_left (by have := (List.getElem?_eq_some_iff.1 he).1; exact this)]; exact he)
              have hsz := mE_push es ⟨some ⟨b1, o1, none⟩, eca, some ⟨b2, o2, none⟩, ecb, en' + 1, x1 :: xr, y1 :: yr⟩ x1 xr rfl
              have HOKS := Lib.hid (And.intro hok1 (And.intro hok2 (And.intro hoks hposs)))
              have HSZ := Lib.hid hsz
              clear hok1 hok2 hoks hposs hsz hrx hry hxl HOK HPOS HOKE
              by_cases hp : 0 < x1.ps.length
              · have hp' : decide (0 < x1.ps.length) = true := by simpa using hp
                go_wp2_with (at_builtin; refine wpList_append_own _ rfl _ _ 58 rfl (w.heap.size + 4) 57 i0 (.agg #[.slice none 0 0, .slice none 0 0]) 2 48 Tryd.underlying58 hi hz0 hz1 hz2 rfl (by decide) _ _ _ rfl (hown4.alloc _) ⟨W4.heap.size, 0, none⟩ 1 1 [.slice ap1 x1.ps.length cp1, .slice ap2 y1.ps.length cp2] rfl rfl (cell_two_new _ _ _ _) (fun x hx => by simp at hx; rcases hx with rfl | rfl <;> rfl) (by unfold maxLen; omega) (by omega) (by simp; omega) ?_; intro v' w6 hown6 hgrow6 hnil6)
                have hb6 : Below (w.heap.size + 4) W4 w6 := ((Below.refl _ W4).alloc (by omega) _).grown hgrow6 (by simp; omega) (fun k hk => (hown4.lt k hk).1)
                go_roundg (mE es + (SizeOf.sizeOf xr + SizeOf.sizeOf x1.ps))
                case measure => exact HSZ.out
                case rel =>
                  obtain ⟨r1, r2, r3, r4⟩ := HOKS.out
                  refine ⟨es ++ [⟨a1, eca - 1, a2, ecb - 1, en' + 1, xr, yr⟩] ++ [⟨ap1, cp1, ap2, cp2, en', x1.ps, y1.ps⟩], ?_, ?_, ?_, ?_, hb04.trans hb6, ?_⟩
                  · exact (mE_two es ⟨a1, eca - 1, a2, ecb - 1, en' + 1, xr, yr⟩ ⟨ap1, cp1, ap2, cp2, en', x1.ps, y1.ps⟩).symm
                  · rw [flatE_snoc, flatE_snoc, List.length_append, List.length_append, List.length_singleton, List.length_singleton, HL.out]
                    exact hown6
                  · intro e he
                    rcases List.mem_append.1 he with he | he
                    · rcases List.mem_append.1 he with he | he
                      · exact (r3 e he).below hb6
                      · simp at he; subst he; exact r1.below hb6
                    · simp at he; subst he; exact r2.below hb6
                  · intro j e he
                    have hln2 := HLN.out
                    rcases get_snoc he with he | ⟨rfl, rfl⟩
                    · rcases get_snoc he with he | ⟨rfl, rfl⟩
                      · exact r4 j e he
                      · rw [HL.out]; exact hln2
                    · rw [List.length_append, List.length_singleton, HL.out]
                      show en' + (l + 1) = n
                      have : en' + 1 + l = n := hln2
                      omega
                  · exact iff_push HI.out (cons_iff HSF.out xr yr)
              · have hp' : decide (0 < x1.ps.length) = false := by simpa using hp
                have HNIL : Hid (x1.ps = y1.ps) := Lib.hid (by
                  have := HXL.out
                  rw [List.eq_nil_of_length_eq_zero (l := x1.ps) (by omega), List.eq_nil_of_length_eq_zero (l := y1.ps) (by omega)])
                go_wp2_with fail
                go_roundg (mE es + SizeOf.sizeOf xr)
                case measure => exact Nat.lt_of_le_of_lt (by omega) HSZ.out
                case rel =>
                  obtain ⟨r1, r2, r3, r4⟩ := HOKS.out
                  refine ⟨es ++ [⟨a1, eca - 1, a2, ecb - 1, en' + 1, xr, yr⟩], ?_, ?_, ?_, ?_, hb04, ?_⟩
                  · rw [mE_snoc]
                  · rw [flatE_snoc, List.length_append, List.length_singleton, HL.out]
                    exact hown4
                  · intro e he
                    rcases List.mem_append.1 he with he | he
                    · exact r3 e he
                    · simp at he; subst he; exact r1
                  · intro j e he
                    rcases get_snoc he with he | ⟨rfl, rfl⟩
                    · exact r4 j e he
                    · rw [HL.out]; exact HLN.out
                  · exact iff_rest HI.out ((cons_iff HSF.out xr yr).trans ⟨fun h => h.1, fun h => ⟨h, HNIL.out⟩⟩)

end Go.Proofs.YthmoadkkadlefaaDoor
