/-
  doc's parser: a struct that a function builds in block g, beside the box of its result.
-/
import Derived.Test.YtkahnlgedacppaaGreatDoorMKa2
import Derived.Test.YtkahnlgedacppaaGreatDoorMKa
namespace Go.Proofs.YtkahnlgedacppaaGreatDoor
open Go.RowKit

/-- What was made since the box was laid stays, but for block g. -/
structure Kp (w : World) (g : Nat) (W W' : World) : Prop where
  size : W.heap.size ≤ W'.heap.size
  heap : ∀ b, w.heap.size + 1 ≤ b → b ≠ g → b < W.heap.size → W'.heap[b]? = W.heap[b]?
theorem Kp.refl (w : World) (g : Nat) (W : World) : Kp w g W W := ⟨Nat.le_refl _, fun _ _ _ _ => rfl⟩
theorem Kp.trans {w a b d : World} {g : Nat} (h : Kp w g a b) (k : Kp w g b d) : Kp w g a d := ⟨Nat.le_trans h.size k.size, fun x h1 h2 h3 => (k.heap x h1 h2 (by have := h.size; omega)).trans (h.heap x h1 h2 h3)⟩
def Dg (w : World) (g : Nat) (W : World) (b : Nat) : Prop := w.heap.size + 1 ≤ b ∧ b ≠ g ∧ b < W.heap.size
theorem Kp.cell {w W W' : World} {g : Nat} (h : Kp w g W W') : ∀ b o, Dg w g W b → W'.cell? ⟨b, o, none⟩ = W.cell? ⟨b, o, none⟩ := fun b o hd => World.cell?_of_block (a := ⟨b, o, none⟩) (h.heap b hd.1 hd.2.1 hd.2.2)
theorem Kp.dn {w W W' : World} {g : Nat} (h : Kp w g W W') : ∀ b, Dg w g W b → Dg w g W' b := fun _ hd => ⟨hd.1, hd.2.1, Nat.lt_of_lt_of_le hd.2.2 h.size⟩
theorem Kp.row {α : Type} {E : ElemR α} {sz : Nat} (hE : ElemOk E sz) {w W W' : World} {g : Nat} (h : Kp w g W W') {xs : List α} {v : Value} (hr : RowD E sz W (Dg w g W) xs v) : RowD E sz W' (Dg w g W') xs v := RowD.step hE h.dn h.cell hr
theorem Kp.rd {w W W' : World} {g : Nat} (h : Kp w g W W') {n : Nat} {x : JV} {v : Value} (hr : RdD W (Dg w g W) n x v) : RdD W' (Dg w g W') n x v := RdD.step h.dn h.cell hr

/-- The box of the result lies in block w.heap.size. -/
structure Lb (c : Cx) (k : Nat) (w : World) (T : TypeId) (b0 : Array Value) (s : Ms) (W : World) : Prop where
  p : Pw c k s w W
  h0 : W.heap[w.heap.size]? = some (.cells b0 T (0, 0))
  hN : c.N ≤ w.heap.size
theorem Lb.sz {c : Cx} {k : Nat} {w : World} {T : TypeId} {b0 : Array Value} {s : Ms} {W : World} (h : Lb c k w T b0 s W) : w.heap.size + 1 ≤ W.heap.size := (Array.getElem?_eq_some_iff.1 h.h0).1
theorem Lb.new {c : Cx} {k : Nat} {s : Ms} {w : World} (h : Pv c k s w) (T : TypeId) (b0 : Array Value) : Lb c k w T b0 s (w.alloc (.cells b0 T (0, 0))) :=
  ⟨.of h ((Below.refl _ w).alloc (Nat.le_refl _) _), heap_alloc_new _ _, h.hN⟩
theorem Lb.call {c : Cx} {k k' : Nat} {w : World} {T : TypeId} {b0 : Array Value} {s s' : Ms} {W W' : World} (h : Lb c k w T b0 s W) (hp : Pw c k' s' W W') : Lb c k' w T b0 s' W' := by
  have hs := h.sz
  have hR := h.p.1.hR
  have hN := h.hN
  exact ⟨h.p.trans hp, (hp.2.block _ (by omega) (by omega)).trans h.h0, h.hN⟩
theorem Lb.below {c : Cx} {k : Nat} {w : World} {T : TypeId} {b0 : Array Value} {s : Ms} {W W' : World} (h : Lb c k w T b0 s W) (hb : Below W.heap.size W W') : Lb c k w T b0 s W' := h.call (.of h.p.1 hb)
theorem Lb.fin {c : Cx} {k : Nat} {w : World} {T : TypeId} {b0 : Array Value} {s : Ms} {W : World} (h : Lb c k w T b0 s W) (i : Nat) (v : Value) : Lb c k w T (b0.setIfInBounds i v) s (W.setCell ⟨w.heap.size, i, none⟩ v) :=
  ⟨h.p.set h.hN (Nat.le_refl _) v, Lib.heap_setCell_same h.h0 v, h.hN⟩

/-- And the struct in block g. -/
structure Lg (c : Cx) (k : Nat) (w : World) (T : TypeId) (g : Nat) (b0 b1 : Array Value) (s : Ms) (W : World) : Prop where
  b : Lb c k w T b0 s W
  h1 : W.heap[g]? = some (.cells b1 T (0, 0))
  hg : w.heap.size < g
theorem Lb.made {c : Cx} {k : Nat} {w : World} {T : TypeId} {b0 : Array Value} {s : Ms} {W : World} (h : Lb c k w T b0 s W) (b1 : Array Value) : Lg c k w T W.heap.size b0 b1 s (W.alloc (.cells b1 T (0, 0))) :=
  ⟨h.below ((Below.refl _ W).alloc (Nat.le_refl _) _), heap_alloc_new _ _, h.sz⟩
theorem Lg.lt {c : Cx} {k : Nat} {w : World} {T : TypeId} {g : Nat} {b0 b1 : Array Value} {s : Ms} {W : World} (h : Lg c k w T g b0 b1 s W) : g < W.heap.size := (Array.getElem?_eq_some_iff.1 h.h1).1
theorem Lg.call {c : Cx} {k k' : Nat} {w : World} {T : TypeId} {g : Nat} {b0 b1 : Array Value} {s s' : Ms} {W W' : World} (h : Lg c k w T g b0 b1 s W) (hp : Pw c k' s' W W') : Lg c k' w T g b0 b1 s' W' ∧ Kp w g W W' := by
  have hs := h.b.sz
  have hR := h.b.p.1.hR
  have hN := h.b.hN
  have hg := h.hg
  exact ⟨⟨h.b.call hp, (hp.2.block _ h.lt (by omega)).trans h.h1, h.hg⟩, ⟨hp.2.size, fun b hb _ hl => hp.2.block b hl (by omega)⟩⟩
theorem Lg.below {c : Cx} {k : Nat} {w : World} {T : TypeId} {g : Nat} {b0 b1 : Array Value} {s : Ms} {W W' : World} (h : Lg c k w T g b0 b1 s W) (hb : Below W.heap.size W W') : Lg c k w T g b0 b1 s W' ∧ Kp w g W W' := h.call (.of h.b.p.1 hb)
theorem Lg.set {c : Cx} {k : Nat} {w : World} {T : TypeId} {g : Nat} {b0 b1 : Array Value} {s : Ms} {W : World} (h : Lg c k w T g b0 b1 s W) (i : Nat) (v : Value) : Lg c k w T g b0 (b1.setIfInBounds i v) s (W.setCell ⟨g, i, none⟩ v) ∧ Kp w g W (W.setCell ⟨g, i, none⟩ v) := by
  have hg := h.hg
  exact ⟨⟨⟨h.b.p.set h.b.hN (by show _ ≤ g; omega) v, (Below.heap_setCell _ _ _ _ (by show w.heap.size ≠ g; omega)).trans h.b.h0, h.b.hN⟩, Lib.heap_setCell_same h.h1 v, h.hg⟩, ⟨by simp [World.setCell], fun b _ hb _ => Below.heap_setCell _ _ _ _ hb⟩⟩
theorem Lg.fin {c : Cx} {k : Nat} {w : World} {T : TypeId} {g : Nat} {b0 b1 : Array Value} {s : Ms} {W : World} (h : Lg c k w T g b0 b1 s W) (i : Nat) (v : Value) : Lg c k w T g (b0.setIfInBounds i v) b1 s (W.setCell ⟨w.heap.size, i, none⟩ v) ∧ Kp w g W (W.setCell ⟨w.heap.size, i, none⟩ v) := by
  have hg := h.hg
  exact ⟨⟨h.b.fin i v, (Below.heap_setCell _ _ _ _ (by show g ≠ w.heap.size; omega)).trans h.h1, h.hg⟩, ⟨by simp [World.setCell], fun b hb _ _ => Below.heap_setCell _ _ _ _ (by show b ≠ w.heap.size; omega)⟩⟩
theorem dg_of {c : Cx} {k : Nat} {w : World} {T : TypeId} {g : Nat} {b0 b1 : Array Value} {s : Ms} {W W' : World} (h : Lg c k w T g b0 b1 s W) : ∀ b, (W.heap.size ≤ b ∧ b < W'.heap.size) → Dg w g W' b := fun _ hd => ⟨by have := h.b.sz; omega, by have := h.lt; omega, hd.2⟩
theorem dg_fin {w W : World} {g : Nat} : ∀ b, Dg w g W b → w.heap.size ≤ b ∧ b < W.heap.size := fun _ hd => ⟨by have := hd.1; omega, hd.2.2⟩

theorem Lg.finE {c : Cx} {k : Nat} {w : World} {T : TypeId} {g : Nat} {b0 b1 : Array Value} {s : Ms} {W : World} (h : Lg c k w T g b0 b1 s W) (i : Nat) (v : Value) {b0' : Array Value} (hb : b0.setIfInBounds i v = b0') : Lg c k w T g b0' b1 s (W.setCell ⟨w.heap.size, i, none⟩ v) ∧ Kp w g W (W.setCell ⟨w.heap.size, i, none⟩ v) := by
  subst hb
  exact h.fin i v
theorem Lb.finE {c : Cx} {k : Nat} {w : World} {T : TypeId} {b0 : Array Value} {s : Ms} {W : World} (h : Lb c k w T b0 s W) (i : Nat) (v : Value) {b0' : Array Value} (hb : b0.setIfInBounds i v = b0') : Lb c k w T b0' s (W.setCell ⟨w.heap.size, i, none⟩ v) := by
  subst hb
  exact h.fin i v
/-- Seven cells into the box. -/
theorem Lg.fin7 {c : Cx} {k : Nat} {w : World} {T : TypeId} {g : Nat} {b1 : Array Value} {s : Ms} {W : World} {z0 z1 z2 z3 z4 z5 z6 : Value} (h : Lg c k w T g #[z0, z1, z2, z3, z4, z5, z6] b1 s W) (c0 c1 c2 c3 c4 c5 c6 : Value) :
    Lg c k w T g #[c0, c1, c2, c3, c4, c5, c6] b1 s (((((((W.setCell ⟨w.heap.size, 0, none⟩ c0).setCell ⟨w.heap.size, 1, none⟩ c1).setCell ⟨w.heap.size, 2, none⟩ c2).setCell ⟨w.heap.size, 3, none⟩ c3).setCell ⟨w.heap.size, 4, none⟩ c4).setCell ⟨w.heap.size, 5, none⟩ c5).setCell ⟨w.heap.size, 6, none⟩ c6) ∧
    Kp w g W (((((((W.setCell ⟨w.heap.size, 0, none⟩ c0).setCell ⟨w.heap.size, 1, none⟩ c1).setCell ⟨w.heap.size, 2, none⟩ c2).setCell ⟨w.heap.size, 3, none⟩ c3).setCell ⟨w.heap.size, 4, none⟩ c4).setCell ⟨w.heap.size, 5, none⟩ c5).setCell ⟨w.heap.size, 6, none⟩ c6) := by
  have U0 := h.finE 0 c0 (b0' := #[c0, z1, z2, z3, z4, z5, z6]) rfl
  have U1 := U0.1.finE 1 c1 (b0' := #[c0, c1, z2, z3, z4, z5, z6]) rfl
  have U2 := U1.1.finE 2 c2 (b0' := #[c0, c1, c2, z3, z4, z5, z6]) rfl
  have U3 := U2.1.finE 3 c3 (b0' := #[c0, c1, c2, c3, z4, z5, z6]) rfl
  have U4 := U3.1.finE 4 c4 (b0' := #[c0, c1, c2, c3, c4, z5, z6]) rfl
  have U5 := U4.1.finE 5 c5 (b0' := #[c0, c1, c2, c3, c4, c5, z6]) rfl
  have U6 := U5.1.finE 6 c6 (b0' := #[c0, c1, c2, c3, c4, c5, c6]) rfl
  exact ⟨U6.1, (((((U0.2.trans U1.2).trans U2.2).trans U3.2).trans U4.2).trans U5.2).trans U6.2⟩
theorem Lb.fin7 {c : Cx} {k : Nat} {w : World} {T : TypeId} {s : Ms} {W : World} {z0 z1 z2 z3 z4 z5 z6 : Value} (h : Lb c k w T #[z0, z1, z2, z3, z4, z5, z6] s W) (c0 c1 c2 c3 c4 c5 c6 : Value) :
    Lb c k w T #[c0, c1, c2, c3, c4, c5, c6] s (((((((W.setCell ⟨w.heap.size, 0, none⟩ c0).setCell ⟨w.heap.size, 1, none⟩ c1).setCell ⟨w.heap.size, 2, none⟩ c2).setCell ⟨w.heap.size, 3, none⟩ c3).setCell ⟨w.heap.size, 4, none⟩ c4).setCell ⟨w.heap.size, 5, none⟩ c5).setCell ⟨w.heap.size, 6, none⟩ c6) := by
  have U0 := h.finE 0 c0 (b0' := #[c0, z1, z2, z3, z4, z5, z6]) rfl
  have U1 := U0.finE 1 c1 (b0' := #[c0, c1, z2, z3, z4, z5, z6]) rfl
  have U2 := U1.finE 2 c2 (b0' := #[c0, c1, c2, z3, z4, z5, z6]) rfl
  have U3 := U2.finE 3 c3 (b0' := #[c0, c1, c2, c3, z4, z5, z6]) rfl
  have U4 := U3.finE 4 c4 (b0' := #[c0, c1, c2, c3, c4, z5, z6]) rfl
  have U5 := U4.finE 5 c5 (b0' := #[c0, c1, c2, c3, c4, c5, z6]) rfl
  exact U5.finE 6 c6 (b0' := #[c0, c1, c2, c3, c4, c5, c6]) rfl
end Go.Proofs.YtkahnlgedacppaaGreatDoor
/-
  The cursor: one or more parts of type api.Input.
-/
namespace Go.Proofs.YtkahnlgedacppaaGreatDoor
open Go.RowKit

theorem infoInp : (Tryz.prog.info? 54).map (fun i => (i.zero, i.size, i.bytes)) = some (some (.agg #[.string ⟨#[]⟩, .string ⟨#[]⟩, .string ⟨#[]⟩, .int .i64 0, .string ⟨#[]⟩, .slice none 0 0, .slice none 0 0]), 7, 120) := by kernel_rfl

set_option maxHeartbeats 4000000 in
set_option maxRecDepth 100000 in
theorem sevInp_any {c : Cx} {k : Nat} {s : Ms} (b e : List UInt8) (P : Ms → VarT × Ms) (w : World) (h : Pv c k s w) (hP : ∀ s' W, Pv c k s' W → Calls Tryz.prog 146 #[.pointer (some ⟨c.Q, 0, none⟩)] W (RecAns VarE c k W (P s')))
    (hless : ∀ s', s'.er = 0 → (P s').2.er = 0 → (P s').2.l.length < s'.l.length) :
    Calls Tryz.prog 145 #[.pointer (some ⟨c.R, 0, none⟩), .string ⟨b.toArray⟩, .func (.func 146) #[.pointer (some ⟨c.Q, 0, none⟩)] #[], .string ⟨e.toArray⟩] w (RowAns VarE 7 c k w (svM c.z b e P s)) := by
  obtain ⟨i2, hi2, hz20, hz21, hz22⟩ := info_parts infoInp
  have HM := pMust_any b w h
  have HRES := Lib.hid (show svM c.z b e P s = moreM e P ((sgM c.z b s).l.length + 1) (sgM c.z b s) [] from rfl)
  generalize svM c.z b e P s = RES at *
  generalize sgM c.z b s = s1 at *
  have HH := Lib.hid h
  have HPP := Lib.hid hP
  have HLS := Lib.hid hless
  have hN := h.hN
  have hRN := h.hR
  clear h hP hless
  go_enter Tryz.func145, Tryz.ntmps145
  go_wp2_with fail
  refine HM.mono ?_
  rintro ee w1 ⟨rfl, hp1⟩
  have hl1 := hp1.1.len
  have HP1 := Lib.hid hp1
  have HL1 := Lib.hid hl1
  clear hp1 HM hl1
  go_wp2_with fail
  go_loopg [9] (s1.l.length + 1) (fun j v9 wr => SevRel VarE c k w 54 7 e P RES j v9 wr)
  case atStart => exact ⟨s1, [], [], HP1.out, fun _ => Nat.lt_succ_self _, fun _ => by simpa using HL1.out, by decide, .nil, HRES.out.symm⟩
  case round =>
    obtain ⟨s2, xs, cs, hp2, hj, hx0, hx1, hrow, hres⟩ := hrel
    clear HP1 HL1 HRES
    obtain ⟨m, p, hbk, -, -, -⟩ := hp2.1.bk
    obtain ⟨-, -, -, c4, -, -, -⟩ := prCell hbk
    have hRr := hp2.1.lt
    have hsw := hp2.2.size
    have HPW := Lib.hid hp2
    have HROW := Lib.hid hrow
    have HX1 := Lib.hid hx1
    by_cases he : s2.er = 0
    · have hj := hj he
      obtain ⟨j2, rfl⟩ : ∃ j', gk = j' + 1 := ⟨gk - 1, by omega⟩
      rw [he] at c4
      have HS := Lib.hid (show RES = if isSg e (hdT (P s2).2.l) then (xs ++ [(P s2).1], tlM (P s2).2) else moreM e P j2 (P s2).2 (xs ++ [(P s2).1]) by rw [← hres, moreM, if_pos he])
      have hless := HLS.out s2 he
      have hx0 := hx0 he
      have hC := HPP.out s2 wr hp2.1
      generalize P s2 = RV at *
      obtain ⟨x, s3⟩ := RV
      dsimp only at HS hless
      have HE := Lib.hid he
      have HLL := Lib.hid hless
      have HX0 := Lib.hid hx0
      have HJ := Lib.hid hj
      clear hres hp2 hrow hbk he hless hx0 hx1 hj
      obtain ⟨aL, cL, rfl, hcL, _⟩ := fresh_row HROW.out.own
      go_wp2_with fail
      refine hC.mono ?_
      rintro ee w2 ⟨es, hee, hE, hp3⟩
      dsimp only at hE hp3
      obtain ⟨hz1, c0, c1, c2, c3, rfl, hE1⟩ := hE
      have hE' : VarE w2 (fun b => wr.heap.size ≤ b ∧ b < w2.heap.size) x [.string ⟨x.nm.toArray⟩, .string ⟨x.ty.1.toArray⟩, .string ⟨x.ty.2.toArray⟩, c0, c1, c2, c3] := ⟨hz1, c0, c1, c2, c3, rfl, hE1⟩
      obtain ⟨an, cn, ap, cp, hsh⟩ := hE1.shape
      obtain ⟨rfl, rfl, rfl, rfl⟩ := agg4_inj hsh
      clear hE1 hsh
      have hee : ee = .returned (.agg #[.string ⟨x.nm.toArray⟩, .string ⟨x.ty.1.toArray⟩, .string ⟨x.ty.2.toArray⟩, .int .i64 x.dflt.k, .string x.dflt.s, .slice an x.dflt.ns.length cn, .slice ap x.dflt.ps.length cp]) := hee
      subst hee
      have HPR := Lib.hid (rec_new w2 7 #[.string ⟨x.nm.toArray⟩, .string ⟨x.ty.1.toArray⟩, .string ⟨x.ty.2.toArray⟩, .int .i64 x.dflt.k, .string x.dflt.s, .slice an x.dflt.ns.length cn, .slice ap x.dflt.ps.length cp] 54)
      have HONE := Lib.hid ((varOk).one hE')
      have hA := HROW.out.app varOk hN HPW.out hp3 hE' (.cells #[.string ⟨x.nm.toArray⟩, .string ⟨x.ty.1.toArray⟩, .string ⟨x.ty.2.toArray⟩, .int .i64 x.dflt.k, .string x.dflt.s, .slice an x.dflt.ns.length cn, .slice ap x.dflt.ps.length cp] 54 (0, 0))
      have HA := Lib.hid hA
      have HOW := Lib.hid hA.1.own
      have HZ := Lib.hid (show w.heap.size ≤ (w2.alloc (.cells #[.string ⟨x.nm.toArray⟩, .string ⟨x.ty.1.toArray⟩, .string ⟨x.ty.2.toArray⟩, .int .i64 x.dflt.k, .string x.dflt.s, .slice an x.dflt.ns.length cn, .slice ap x.dflt.ps.length cp] 54 (0, 0))).heap.size by rw [hA.2.2]; have := hp3.2.size; omega)
      have HZ2 := Lib.hid hA.2.2
      have HP3 := Lib.hid hp3
      clear hp3 hE' hA hC
      have hxm : xs.length ≤ 9000 := by have := HX1.out; omega
      go_wp2_with (at_builtin; refine wpList_append_lies _ rfl _ _ 43 rfl w.heap.size 54 i2 (.agg #[.string ⟨#[]⟩, .string ⟨#[]⟩, .string ⟨#[]⟩, .int .i64 0, .string ⟨#[]⟩, .slice none 0 0, .slice none 0 0]) 7 120 Tryz.underlying43 hi2 hz20 hz21 hz22 rfl (by decide) (.slice aL xs.length cL) xs.length cs rfl HOW.out ⟨w2.heap.size, 0, none⟩ 1 1 [.string ⟨x.nm.toArray⟩, .string ⟨x.ty.1.toArray⟩, .string ⟨x.ty.2.toArray⟩, .int .i64 x.dflt.k, .string x.dflt.s, .slice an x.dflt.ns.length cn, .slice ap x.dflt.ps.length cp] rfl rfl HPR.out HONE.out (by decide) (by unfold maxLen; omega) (by omega) HZ.out (w2.heap.size + 1) HZ2.out ?_)
      intro g8 cap8 w8 hown8 hg8 hlie8 hl8
      obtain ⟨hrow8, hp8⟩ := app_done varOk HPW.out HP3.out HA.out hN hown8 hg8 (by
        rcases hlie8 with ea | ea
        · exact .inl ea.symm
        · exact .inr (by rw [HZ2.out, ea]; rfl))
      have HT := pTakeSign_any e w8 hp8.1
      have HR8 := Lib.hid hrow8
      have HP8 := Lib.hid hp8
      clear hown8 hg8 hlie8 hrow8 hp8 HPR HONE HA HOW HZ HZ2 HP3
      cases hi : isSg e (hdT s3.l) with
      | true =>
        rw [hi] at HT HS
        simp only [reduceIte] at HT HS
        clear hi
        go_wp2_with fail
        refine HT.mono ?_
        rintro ee w9 ⟨rfl, hp9⟩
        have HP9 := Lib.hid hp9
        clear hp9 HT
        go_wp2_with fail
        go_ret
        rw [HS.out]
        exact ⟨_, rfl, (HR8.out.call varOk hN hRN HP8.out HP9.out).done varOk (by rw [List.length_append, List.length_singleton]; omega), HP8.out.trans HP9.out⟩
      | false =>
        rw [hi] at HT HS
        simp only [reduceIte, Bool.false_eq_true] at HT HS
        clear hi
        go_wp2_with fail
        refine HT.mono ?_
        rintro ee w9 ⟨rfl, hp9⟩
        have HP9 := Lib.hid hp9
        clear hp9 HT
        go_wp2_with fail
        go_roundg j2
        case measure => omega
        case rel => exact sevRel_next (HR8.out.call varOk hN hRN HP8.out HP9.out) (HP8.out.trans HP9.out) HE.out HLL.out HX0.out HJ.out HS.out
    · have hne : ((s2.er : Int) == 0) = false := by rw [beq_eq_false_iff_ne]; omega
      have HS := Lib.hid (show RES = (xs, s2) by rw [← hres, moreM_bad e P he])
      obtain ⟨aL, cL, rfl, hcL, _⟩ := fresh_row HROW.out.own
      clear hres hp2 hrow hbk he hx0 hx1 hj
      go_wp2_with fail
      go_ret
      rw [HS.out]
      exact ⟨_, rfl, HROW.out.done varOk (by have := HX1.out; omega), HPW.out⟩

end Go.Proofs.YtkahnlgedacppaaGreatDoor
/-
  sdl's parser: an input, inputs.
-/
namespace Go.Proofs.YtkahnlgedacppaaGreatDoor
open Go.RowKit

theorem hdT_memQ {l : List Tk} {B : Nat} (h : ∀ t ∈ l, t.s.length ≤ B) : (hdT l).s.length ≤ B := by
  cases l with
  | nil => exact Nat.zero_le _
  | cons t r => exact h _ (List.mem_cons_self ..)
theorem nmM_of (z : Nat) {s : Ms} (h : ∀ t ∈ s.l, t.s.length ≤ 2000000) : (nmM z s).1.length ≤ 2000000 := by
  unfold nmM
  split
  · exact hdT_memQ h
  · exact Nat.zero_le _
theorem Pv.mem2 {c : Cx} {k : Nat} {s : Ms} {w : World} (h : Pv c k s w) : ∀ t ∈ s.l, t.s.length ≤ 2000000 := fun t ht => Nat.le_trans (h.mem t ht) (by decide)
theorem deM_size {c : Cx} {k : Nat} {s : Ms} {w : World} (h : Pv c k s w) : (deM c.z s).1.length ≤ 2000000 := by
  refine nmM_of c.z (fun t ht => h.mem2 t ?_)
  unfold txM at ht
  split at ht
  · exact List.mem_of_mem_tail ht
  · exact ht
theorem tyS_fwd (z : Nat) (s : Ms) : Fwd s (tyM z s).2 := by
  unfold tyM
  split
  · exact ⟨by show (s.l.drop _).length ≤ _; rw [List.length_drop]; omega, id⟩
  · exact (fail_eats z (by decide) s).fwd
theorem dfS_fwd (z : Nat) (s : Ms) : Fwd s (dfltM z s).2 := by
  unfold dfltM
  split
  · exact Fwd.trans ⟨tl_le s, id⟩ (vaM_fwd z _ _)
  · exact .refl s
theorem inpM_eats (z : Nat) (s : Ms) : Eats s (inpM z s).2 := (deM_eats z s).then (((sgM_eats z [58] _).fwd.trans (tyS_fwd z _)).trans (dfS_fwd z _))
theorem argsM_fwd (z : Nat) (s : Ms) : Fwd s (argsM z s).2 := soM_fwd z _ _ (fun s => (inpM_eats z s).fwd) s

set_option maxHeartbeats 2000000 in
set_option maxRecDepth 100000 in
theorem sonInp_any {c : Cx} {k : Nat} {s : Ms} (b e : List UInt8) (P : Ms → VarT × Ms) (w : World) (h : Pv c k s w) (hP : ∀ s' W, Pv c k s' W → Calls Tryz.prog 146 #[.pointer (some ⟨c.Q, 0, none⟩)] W (RecAns VarE c k W (P s')))
    (hless : ∀ s', s'.er = 0 → (P s').2.er = 0 → (P s').2.l.length < s'.l.length) :
    Calls Tryz.prog 185 #[.pointer (some ⟨c.R, 0, none⟩), .string ⟨b.toArray⟩, .func (.func 146) #[.pointer (some ⟨c.Q, 0, none⟩)] #[], .string ⟨e.toArray⟩] w (RowAns VarE 7 c k w (soM c.z b e P s)) := by
  have HS := pSign_any b w h
  have HH := Lib.hid h
  have HM := Lib.hid (show soM c.z b e P s = if isSg b (hdT s.l) then svM c.z b e P s else ([], s) from rfl)
  have HV := fun W (hb : Below w.heap.size w W) => sevInp_any b e P W (h.below hb h.hN) hP hless
  clear h hP hless
  cases hi : isSg b (hdT s.l) with
  | true =>
    rw [hi] at HS HM
    clear hi
    go_enter Tryz.func185, Tryz.ntmps185
    go_wp2_with fail
    refine HS.mono ?_
    rintro ee w1 ⟨rfl, hb⟩
    have HV1 := HV w1 hb
    have HB := Lib.hid hb
    clear HV HS hb
    go_wp2_with fail
    refine HV1.mono ?_
    rintro ee w2 ⟨v, rfl, hR, hp⟩
    have HR := Lib.hid hR
    have HP := Lib.hid hp
    obtain ⟨a, cp, rfl⟩ := hR.shape
    clear hR hp HV1
    go_wp2_with fail
    go_ret
    rw [HM.out]
    exact ⟨_, rfl, RowD.step varOk (fun b hd => ⟨Nat.le_trans HB.out.size hd.1, hd.2⟩) (fun _ _ _ => rfl) HR.out, ((Pw.refl HH.out).below HB.out).trans HP.out⟩
  | false =>
    rw [hi] at HS HM
    clear hi HV
    go_enter Tryz.func185, Tryz.ntmps185
    go_wp2_with fail
    refine HS.mono ?_
    rintro ee w1 ⟨rfl, hb⟩
    have HB := Lib.hid hb
    clear HS hb
    go_wp2_with fail
    go_ret
    rw [HM.out]
    exact ⟨_, rfl, .nil, (Pw.refl HH.out).below HB.out⟩


set_option maxHeartbeats 8000000 in
set_option maxRecDepth 100000 in
theorem sInput_any {c : Cs} {s : Ms} (w : World) (h : Pv c 0 s w) : Calls Tryz.prog 146 #[.pointer (some ⟨c.Q, 0, none⟩)] w (RecAns VarE c 0 w (inpM c.z s)) := by
  have q00 := h.qs
  have l00 := h.ltQ
  have L0 := Lb.new h 54 #[.string ⟨#[]⟩, .string ⟨#[]⟩, .string ⟨#[]⟩, .int .i64 0, .string ⟨#[]⟩, .slice none 0 0, .slice none 0 0]
  have HL0 := Lib.hid L0
  have HC1 := sDescr_any _ L0.p.1
  have HM := Lib.hid (show inpM c.z s = (⟨(deM c.z s).1, (tyM c.z (sgM c.z [58] (deM c.z s).2)).1, (dfltM c.z (tyM c.z (sgM c.z [58] (deM c.z s).2)).2).1⟩, (dfltM c.z (tyM c.z (sgM c.z [58] (deM c.z s).2)).2).2) from rfl)
  have HZ := Lib.hid (deM_size h)
  generalize deM c.z s = R1 at *
  generalize inpM c.z s = RES at *
  obtain ⟨nm, s1⟩ := R1
  dsimp only at HC1 HM HZ
  clear L0 h
  go_enter Tryz.func146, Tryz.ntmps146
  go_wp2_with fail
  refine HC1.mono ?_
  rintro e w1 ⟨rfl, p1⟩
  have qw1 := p1.1.qs
  have lw1 := p1.1.ltQ
  have hQg : c.Q ≠ w1.heap.size := by omega
  have hQ0 : c.Q ≠ w.heap.size := by omega
  have G1 := (HL0.out.call p1).made #[.string ⟨nm.toArray⟩, .string ⟨#[]⟩, .string ⟨#[]⟩, .int .i64 0, .string ⟨#[]⟩, .slice none 0 0, .slice none 0 0]
  have hlt := HL0.out.sz
  have hlt1 := (HL0.out.call p1).sz
  have hbw : w1.heap.size ≠ w.heap.size := by omega
  have HC2 := pMust_any [58] _ G1.b.p.1
  have HG1 := Lib.hid G1
  generalize sgM c.z [58] s1 = s2 at *
  clear p1 G1 HC1 HL0
  go_wp2_with fail
  refine HC2.mono ?_
  rintro e w2 ⟨rfl, p2⟩
  have qw2 := p2.1.qs
  have lw2 := p2.1.ltQ
  have G2 := HG1.out.call p2
  have HG2 := Lib.hid G2.1
  have HC3 := pType_any w2 G2.1.b.p.1
  have HTZ := Lib.hid (tyM_size G2.1.b.p.1)
  generalize tyM c.z s2 = RT at *
  obtain ⟨⟨tn, tw⟩, s3⟩ := RT
  dsimp only at HC3 HM HTZ
  clear p2 G2 HC2 HG1
  go_wp2_with fail
  refine HC3.mono ?_
  rintro e w3 ⟨rfl, p3⟩
  have qw3 := p3.1.qs
  have lw3 := p3.1.ltQ
  have G3 := HG2.out.call p3
  have T4 := G3.1.set 1 (.string ⟨tn.toArray⟩)
  have T5 := T4.1.set 2 (.string ⟨tw.toArray⟩)
  have HT5 := Lib.hid T5.1
  obtain ⟨b0, b1, b2, b3, b4, b5, b6, bf, bl⟩ := blk7 G3.1.h1
  have HC5 := cDefault_any _ T5.1.b.p.1
  have HDV := Lib.hid (dfltM_small T5.1.b.p.1)
  generalize dfltM c.z s3 = RD at *
  obtain ⟨dv, s5⟩ := RD
  dsimp only at HM HDV
  clear p3 G3 HC3 HG2 T4 T5
  go_wp2_with fail
  refine HC5.mono ?_
  rintro e w6 ⟨kk, ss, an, ln, cn, ap, lp, cp, rfl, hR, p6⟩
  dsimp only at hR p6
  have G6 := HT5.out.call p6
  have hd := RdD.step (D' := Dg w w1.heap.size w6) (w' := w6) (dg_of HT5.out) (fun _ _ _ => rfl) hR
  have T6 := G6.1.set 3 (.int .i64 kk)
  have T7 := T6.1.set 4 (.string ss)
  have T8 := T7.1.set 5 (.slice an ln cn)
  have T9 := T8.1.set 6 (.slice ap lp cp)
  have U := T9.1.fin7 (.string ⟨nm.toArray⟩) (.string ⟨tn.toArray⟩) (.string ⟨tw.toArray⟩) (.int .i64 kk) (.string ss) (.slice an ln cn) (.slice ap lp cp)
  have HV := Lib.hid (U.2.rd ((((T6.2.trans T7.2).trans T8.2).trans T9.2).rd hd))
  have HU := Lib.hid U.1
  clear b0 b1 b2 b3 b4 b5 b6 bf bl
  obtain ⟨b0, b1, b2, b3, b4, b5, b6, bf, bl⟩ := blk7 G6.1.h1
  obtain ⟨a0, a1, a2, a3, a4, a5, a6, af, al2⟩ := blk7 G6.1.b.h0
  obtain ⟨f0, f1, f2, f3, f4, f5, f6, -, -⟩ := blk7 U.1.b.h0
  have HF := Lib.hid (And.intro f0 (And.intro f1 (And.intro f2 (And.intro f3 (And.intro f4 (And.intro f5 f6))))))
  clear p6 G6 HC5 HT5 hR hd T6 T7 T8 T9 U f0 f1 f2 f3 f4 f5 f6
  go_wp2_with fail
  obtain ⟨f0, f1, f2, f3, f4, f5, f6⟩ := HF.out
  refine bodyPost_ret (v := .agg #[.string ⟨nm.toArray⟩, .string ⟨tn.toArray⟩, .string ⟨tw.toArray⟩, .int .i64 kk, .string ss, .slice an ln cn, .slice ap lp cp]) (by simp [results, Tryz.results146, go_sem, f0, f1, f2, f3, f4, f5, f6]) rfl ?_
  rw [HM.out]
  exact ⟨[.string ⟨nm.toArray⟩, .string ⟨tn.toArray⟩, .string ⟨tw.toArray⟩, .int .i64 kk, .string ss, .slice an ln cn, .slice ap lp cp], rfl, varOk.step dg_fin (fun _ _ _ => rfl) ⟨⟨HZ.out, HTZ.out.1, HTZ.out.2, HDV.out⟩, _, _, _, _, rfl, 13, HV.out⟩, HU.out.b.p⟩

end Go.Proofs.YtkahnlgedacppaaGreatDoor
/-
  The cursor: one or more parts of type api.FieldDef.
-/
namespace Go.Proofs.YtkahnlgedacppaaGreatDoor
open Go.RowKit

theorem infoFld : (Tryz.prog.info? 49).map (fun i => (i.zero, i.size, i.bytes)) = some (some (.agg #[.string ⟨#[]⟩, .slice none 0 0, .string ⟨#[]⟩, .string ⟨#[]⟩, .int .i64 0]), 5, 80) := by kernel_rfl

set_option maxHeartbeats 4000000 in
set_option maxRecDepth 100000 in
theorem sevFld_any {c : Cx} {k : Nat} {s : Ms} (b e : List UInt8) (P : Ms → FldT × Ms) (w : World) (h : Pv c k s w) (hP : ∀ s' W, Pv c k s' W → Calls Tryz.prog 142 #[.pointer (some ⟨c.Q, 0, none⟩)] W (RecAns FldE c k W (P s')))
    (hless : ∀ s', s'.er = 0 → (P s').2.er = 0 → (P s').2.l.length < s'.l.length) :
    Calls Tryz.prog 141 #[.pointer (some ⟨c.R, 0, none⟩), .string ⟨b.toArray⟩, .func (.func 142) #[.pointer (some ⟨c.Q, 0, none⟩)] #[], .string ⟨e.toArray⟩] w (RowAns FldE 5 c k w (svM c.z b e P s)) := by
  obtain ⟨i2, hi2, hz20, hz21, hz22⟩ := info_parts infoFld
  have HM := pMust_any b w h
  have HRES := Lib.hid (show svM c.z b e P s = moreM e P ((sgM c.z b s).l.length + 1) (sgM c.z b s) [] from rfl)
  generalize svM c.z b e P s = RES at *
  generalize sgM c.z b s = s1 at *
  have HH := Lib.hid h
  have HPP := Lib.hid hP
  have HLS := Lib.hid hless
  have hN := h.hN
  have hRN := h.hR
  clear h hP hless
  go_enter Tryz.func141, Tryz.ntmps141
  go_wp2_with fail
  refine HM.mono ?_
  rintro ee w1 ⟨rfl, hp1⟩
  have hl1 := hp1.1.len
  have HP1 := Lib.hid hp1
  have HL1 := Lib.hid hl1
  clear hp1 HM hl1
  go_wp2_with fail
  go_loopg [9] (s1.l.length + 1) (fun j v9 wr => SevRel FldE c k w 49 5 e P RES j v9 wr)
  case atStart => exact ⟨s1, [], [], HP1.out, fun _ => Nat.lt_succ_self _, fun _ => by simpa using HL1.out, by decide, .nil, HRES.out.symm⟩
  case round =>
    obtain ⟨s2, xs, cs, hp2, hj, hx0, hx1, hrow, hres⟩ := hrel
    clear HP1 HL1 HRES
    obtain ⟨m, p, hbk, -, -, -⟩ := hp2.1.bk
    obtain ⟨-, -, -, c4, -, -, -⟩ := prCell hbk
    have hRr := hp2.1.lt
    have hsw := hp2.2.size
    have HPW := Lib.hid hp2
    have HROW := Lib.hid hrow
    have HX1 := Lib.hid hx1
    by_cases he : s2.er = 0
    · have hj := hj he
      obtain ⟨j2, rfl⟩ : ∃ j', gk = j' + 1 := ⟨gk - 1, by omega⟩
      rw [he] at c4
      have HS := Lib.hid (show RES = if isSg e (hdT (P s2).2.l) then (xs ++ [(P s2).1], tlM (P s2).2) else moreM e P j2 (P s2).2 (xs ++ [(P s2).1]) by rw [← hres, moreM, if_pos he])
      have hless := HLS.out s2 he
      have hx0 := hx0 he
      have hC := HPP.out s2 wr hp2.1
      generalize P s2 = RV at *
      obtain ⟨x, s3⟩ := RV
      dsimp only at HS hless
      have HE := Lib.hid he
      have HLL := Lib.hid hless
      have HX0 := Lib.hid hx0
      have HJ := Lib.hid hj
      clear hres hp2 hrow hbk he hless hx0 hx1 hj
      obtain ⟨aL, cL, rfl, hcL, _⟩ := fresh_row HROW.out.own
      go_wp2_with fail
      refine hC.mono ?_
      rintro ee w2 ⟨es, hee, hE, hp3⟩
      dsimp only at hE hp3
      obtain ⟨hz1, va, rfl, ha1⟩ := hE
      have hE' : FldE w2 (fun b => wr.heap.size ≤ b ∧ b < w2.heap.size) x [.string ⟨x.nm.toArray⟩, va, .string ⟨x.ty.1.toArray⟩, .string ⟨x.ty.2.toArray⟩, .int .i64 x.cost] := ⟨hz1, va, rfl, ha1⟩
      obtain ⟨aa, ca, rfl⟩ := ha1.shape
      clear ha1
      have hee : ee = .returned (.agg #[.string ⟨x.nm.toArray⟩, .slice aa x.args.length ca, .string ⟨x.ty.1.toArray⟩, .string ⟨x.ty.2.toArray⟩, .int .i64 x.cost]) := hee
      subst hee
      have HPR := Lib.hid (rec_new w2 5 #[.string ⟨x.nm.toArray⟩, .slice aa x.args.length ca, .string ⟨x.ty.1.toArray⟩, .string ⟨x.ty.2.toArray⟩, .int .i64 x.cost] 49)
      have HONE := Lib.hid ((fldOk).one hE')
      have hA := HROW.out.app fldOk hN HPW.out hp3 hE' (.cells #[.string ⟨x.nm.toArray⟩, .slice aa x.args.length ca, .string ⟨x.ty.1.toArray⟩, .string ⟨x.ty.2.toArray⟩, .int .i64 x.cost] 49 (0, 0))
      have HA := Lib.hid hA
      have HOW := Lib.hid hA.1.own
      have HZ := Lib.hid (show w.heap.size ≤ (w2.alloc (.cells #[.string ⟨x.nm.toArray⟩, .slice aa x.args.length ca, .string ⟨x.ty.1.toArray⟩, .string ⟨x.ty.2.toArray⟩, .int .i64 x.cost] 49 (0, 0))).heap.size by rw [hA.2.2]; have := hp3.2.size; omega)
      have HZ2 := Lib.hid hA.2.2
      have HP3 := Lib.hid hp3
      clear hp3 hE' hA hC
      have hxm : xs.length ≤ 9000 := by have := HX1.out; omega
      go_wp2_with (at_builtin; refine wpList_append_lies _ rfl _ _ 42 rfl w.heap.size 49 i2 (.agg #[.string ⟨#[]⟩, .slice none 0 0, .string ⟨#[]⟩, .string ⟨#[]⟩, .int .i64 0]) 5 80 Tryz.underlying42 hi2 hz20 hz21 hz22 rfl (by decide) (.slice aL xs.length cL) xs.length cs rfl HOW.out ⟨w2.heap.size, 0, none⟩ 1 1 [.string ⟨x.nm.toArray⟩, .slice aa x.args.length ca, .string ⟨x.ty.1.toArray⟩, .string ⟨x.ty.2.toArray⟩, .int .i64 x.cost] rfl rfl HPR.out HONE.out (by decide) (by unfold maxLen; omega) (by omega) HZ.out (w2.heap.size + 1) HZ2.out ?_)
      intro g8 cap8 w8 hown8 hg8 hlie8 hl8
      obtain ⟨hrow8, hp8⟩ := app_done fldOk HPW.out HP3.out HA.out hN hown8 hg8 (by
        rcases hlie8 with ea | ea
        · exact .inl ea.symm
        · exact .inr (by rw [HZ2.out, ea]; rfl))
      have HT := pTakeSign_any e w8 hp8.1
      have HR8 := Lib.hid hrow8
      have HP8 := Lib.hid hp8
      clear hown8 hg8 hlie8 hrow8 hp8 HPR HONE HA HOW HZ HZ2 HP3
      cases hi : isSg e (hdT s3.l) with
      | true =>
        rw [hi] at HT HS
        simp only [reduceIte] at HT HS
        clear hi
        go_wp2_with fail
        refine HT.mono ?_
        rintro ee w9 ⟨rfl, hp9⟩
        have HP9 := Lib.hid hp9
        clear hp9 HT
        go_wp2_with fail
        go_ret
        rw [HS.out]
        exact ⟨_, rfl, (HR8.out.call fldOk hN hRN HP8.out HP9.out).done fldOk (by rw [List.length_append, List.length_singleton]; omega), HP8.out.trans HP9.out⟩
      | false =>
        rw [hi] at HT HS
        simp only [reduceIte, Bool.false_eq_true] at HT HS
        clear hi
        go_wp2_with fail
        refine HT.mono ?_
        rintro ee w9 ⟨rfl, hp9⟩
        have HP9 := Lib.hid hp9
        clear hp9 HT
        go_wp2_with fail
        go_roundg j2
        case measure => omega
        case rel => exact sevRel_next (HR8.out.call fldOk hN hRN HP8.out HP9.out) (HP8.out.trans HP9.out) HE.out HLL.out HX0.out HJ.out HS.out
    · have hne : ((s2.er : Int) == 0) = false := by rw [beq_eq_false_iff_ne]; omega
      have HS := Lib.hid (show RES = (xs, s2) by rw [← hres, moreM_bad e P he])
      obtain ⟨aL, cL, rfl, hcL, _⟩ := fresh_row HROW.out.own
      clear hres hp2 hrow hbk he hx0 hx1 hj
      go_wp2_with fail
      go_ret
      rw [HS.out]
      exact ⟨_, rfl, HROW.out.done fldOk (by have := HX1.out; omega), HPW.out⟩

end Go.Proofs.YtkahnlgedacppaaGreatDoor
