/-
  doc's parser: the document as it grows.
-/
import Derived.Test.YtkfllppggjhhmaaGreatDoorMDo2
import Derived.Deep.RegionLaw
namespace Go.Proofs.YtkfllppggjhhmaaGreatDoor
open Go.RowKit

/-- Records that do not reach into the block of v either. -/
def Ex {α : Type} (E : ElemR α) (v : Value) : ElemR α := fun w D x cs => E w (fun b => D b ∧ v.ownBlock ≠ some b) x cs
theorem exOk {α : Type} {E : ElemR α} {sz : Nat} (h : ElemOk E sz) (v : Value) : ElemOk (Ex E v) sz :=
  ⟨fun hD hk hE => h.step (fun b hd => ⟨hD b hd.1, hd.2⟩) (fun b o hd => hk b o hd.1) hE, fun hE => h.len hE, fun hE => h.one hE⟩
theorem OwnR.elem {α : Type} {E E' : ElemR α} {B : Nat} {T : TypeId} {sz : Nat} {xs : List α} {cs : List Value} {v : Value} {W : World} (h : OwnR E B T sz xs cs v W) (hE : ∀ x es, E W (OD B W v) x es → E' W (OD B W v) x es) : OwnR E' B T sz xs cs v W :=
  ⟨h.own, fun i x hx => by
    obtain ⟨es, hl, hc, hR⟩ := h.el i x hx
    exact ⟨es, hl, hc, hE x es hR⟩⟩

/-- The box of the document in block w.heap.size, the document itself in the next one. -/
structure Ds (c : Cx) (w : World) (d : DocT) (s : Ms) (vo vf : Value) (co cf : List Value) (W : World) : Prop where
  g : Lg c 0 w 25 (w.heap.size + 1) #[.slice none 0 0, .slice none 0 0] #[vo, vf] s W
  o : OwnR (Ex OpE vf) (w.heap.size + 2) 45 5 d.ops co vo W
  f : OwnR (Ex FragE vo) (w.heap.size + 2) 61 4 d.frags cf vf W
  ne : ∀ b, vo.ownBlock = some b → vf.ownBlock ≠ some b

theorem Ds.call {c : Cx} {w : World} {d : DocT} {s s' : Ms} {vo vf : Value} {co cf : List Value} {W W' : World} (h : Ds c w d s vo vf co cf W) (hp : Pw c 0 s' W W') : Ds c w d s' vo vf co cf W' := by
  have hR := h.g.b.p.1.hR
  have hN := h.g.b.hN
  have hb : ∀ b, w.heap.size + 2 ≤ b → b < W.heap.size → W'.heap[b]? = W.heap[b]? := fun b hb hl => hp.2.block b hl (by omega)
  exact ⟨(h.g.call hp).1, h.o.keep (exOk opOk vf) hb hp.2.size, h.f.keep (exOk fragOk vo) hb hp.2.size, h.ne⟩
theorem Ds.below {c : Cx} {w : World} {d : DocT} {s : Ms} {vo vf : Value} {co cf : List Value} {W W' : World} (h : Ds c w d s vo vf co cf W) (hb : Below W.heap.size W W') : Ds c w d s vo vf co cf W' := h.call (.of h.g.b.p.1 hb)

theorem grow_lg {c : Cx} {w W w8 : World} {s : Ms} {T : TypeId} {b0 b1 : Array Value} {v : Value} (h : Lg c 0 w T (w.heap.size + 1) b0 b1 s W) (hv : ∀ g, v.ownBlock = some g → w.heap.size + 2 ≤ g) (hg : W.grownBy w8 v.ownBlock) : Lg c 0 w T (w.heap.size + 1) b0 b1 s w8 := by
  have hlt := h.lt
  have hz := hg.size
  have hb : Below (w.heap.size + 2) W w8 := ⟨hg.os, hg.tape, hg.output, hg.size, fun b hb => hg.block b (by omega) (fun e => by
    have := hv b (by first | exact e | exact e.symm)
    omega)⟩
  exact ⟨⟨⟨h.b.p.1.below (hb.mono (Nat.le_add_right _ 2)) h.b.hN, h.b.p.2.trans (.of (hb.mono (Nat.le_add_right _ 2)))⟩, (hb.block _ (by omega)).trans h.b.h0, h.b.hN⟩, (hb.block _ (by omega)).trans h.h1, h.hg⟩
/-- The other row, where one has grown. -/
theorem grow_other {α : Type} {E : ElemR α} {sz : Nat} (hE : ElemOk E sz) {B : Nat} {T : TypeId} {xs : List α} {cs : List Value} {v u u' : Value} {W w8 : World} (h : OwnR (Ex E u) B T sz xs cs v W) (hne : ∀ b, v.ownBlock = some b → u.ownBlock ≠ some b) (hg : W.grownBy w8 u.ownBlock) (hlie : u'.ownBlock = u.ownBlock ∨ u'.ownBlock = some W.heap.size) :
    OwnR (Ex E u') B T sz xs cs v w8 := by
  have hz := hg.size
  have hh : ∀ b, b < W.heap.size → u.ownBlock ≠ some b → w8.heap[b]? = W.heap[b]? := fun b hb hn => hg.block b hb (by first | exact hn | exact fun e => hn e.symm)
  refine ⟨ownsRow_block h.own (fun g e => ?_), fun i x hx => ?_⟩
  · have := h.own.lt g e
    exact hh g this.2 (hne g e)
  · obtain ⟨es, hl, hc, hR⟩ := h.el i x hx
    refine ⟨es, hl, hc, hE.step (fun b hd => ⟨⟨hd.1.1, by have := hd.1.2.1; omega, hd.1.2.2⟩, ?_⟩) (fun b o hd => World.cell?_of_block (a := ⟨b, o, none⟩) (hh b hd.1.2.1 hd.2)) hR⟩
    rcases hlie with e | e
    · rw [e]; exact hd.2
    · rw [e]; intro e2; have := Option.some.inj e2; have := hd.1.2.1; omega

theorem Ds.fragDone {c : Cx} {w W w8 : World} {d : DocT} {s : Ms} {vo vf v' : Value} {co cf es : List Value} {x : FragT} (h : Ds c w d s vo vf co cf W) (hx : Ex FragE vo W (OD (w.heap.size + 2) W vf) x es) (hown : w8.ownsRow (w.heap.size + 2) 61 4 v' (d.frags.length + 1) (cf ++ es)) (hg : W.grownBy w8 vf.ownBlock)
    (hlie : v'.ownBlock = vf.ownBlock ∨ v'.ownBlock = some W.heap.size) : Ds c w ⟨d.ops, d.frags ++ [x]⟩ s vo v' co (cf ++ es) (w8.setCell ⟨w.heap.size + 1, 1, none⟩ v') := by
  have G := (grow_lg h.g (fun g e => (h.f.own.lt g e).1) hg).set 1 v'
  have hk : ∀ b, w.heap.size + 2 ≤ b → b < w8.heap.size → (w8.setCell ⟨w.heap.size + 1, 1, none⟩ v').heap[b]? = w8.heap[b]? := fun b hb _ => Below.heap_setCell _ _ _ _ (by show b ≠ w.heap.size + 1; omega)
  have hs : w8.heap.size ≤ (w8.setCell ⟨w.heap.size + 1, 1, none⟩ v').heap.size := by simp [World.setCell]
  refine ⟨G.1, (grow_other opOk h.o h.ne hg hlie).keep (exOk opOk v') hk hs, (h.f.snoc (exOk fragOk vo) hx hown hg hlie).keep (exOk fragOk vo) hk hs, fun b e => ?_⟩
  rcases hlie with e1 | e1
  · rw [e1]; exact h.ne b e
  · rw [e1]; intro e2; have := Option.some.inj e2; have := (h.o.own.lt b e).2; omega
theorem Ds.opDone {c : Cx} {w W w8 : World} {d : DocT} {s : Ms} {vo vf v' : Value} {co cf es : List Value} {x : OpT} (h : Ds c w d s vo vf co cf W) (hx : Ex OpE vf W (OD (w.heap.size + 2) W vo) x es) (hown : w8.ownsRow (w.heap.size + 2) 45 5 v' (d.ops.length + 1) (co ++ es)) (hg : W.grownBy w8 vo.ownBlock)
    (hlie : v'.ownBlock = vo.ownBlock ∨ v'.ownBlock = some W.heap.size) : Ds c w ⟨d.ops ++ [x], d.frags⟩ s v' vf (co ++ es) cf (w8.setCell ⟨w.heap.size + 1, 0, none⟩ v') := by
  have G := (grow_lg h.g (fun g e => (h.o.own.lt g e).1) hg).set 0 v'
  have hk : ∀ b, w.heap.size + 2 ≤ b → b < w8.heap.size → (w8.setCell ⟨w.heap.size + 1, 0, none⟩ v').heap[b]? = w8.heap[b]? := fun b hb _ => Below.heap_setCell _ _ _ _ (by show b ≠ w.heap.size + 1; omega)
  have hs : w8.heap.size ≤ (w8.setCell ⟨w.heap.size + 1, 0, none⟩ v').heap.size := by simp [World.setCell]
  have hne : ∀ b, vf.ownBlock = some b → vo.ownBlock ≠ some b := fun b e e2 => h.ne b e2 e
  refine ⟨G.1, (h.o.snoc (exOk opOk vf) hx hown hg hlie).keep (exOk opOk vf) hk hs, (grow_other fragOk h.f hne hg hlie).keep (exOk fragOk v') hk hs, fun b e e2 => ?_⟩
  rcases hlie with e1 | e1
  · exact h.ne b (by rw [← e1]; exact e) e2
  · rw [e1] at e; have := Option.some.inj e; have := (h.f.own.lt b e2).2; omega

/-- A part has been read out of new blocks, and its cells laid once more. -/
theorem Ds.newPart {c : Cx} {w W w3 : World} {d : DocT} {s s3 : Ms} {vo vf : Value} {co cf : List Value} (h : Ds c w d s vo vf co cf W) (hp : Pw c 0 s3 W w3) (o : Obj) :
    Ds c w d s3 vo vf co cf (w3.alloc o) ∧ (w3.alloc o).heap.size = w3.heap.size + 1 ∧ w.heap.size + 2 ≤ (w3.alloc o).heap.size ∧
    ∀ b, (W.heap.size ≤ b ∧ b < w3.heap.size) → (OD (w.heap.size + 2) (w3.alloc o) vo b ∧ vf.ownBlock ≠ some b) ∧ (OD (w.heap.size + 2) (w3.alloc o) vf b ∧ vo.ownBlock ≠ some b) := by
  have hz : (w3.alloc o).heap.size = w3.heap.size + 1 := by simp
  have hlt := h.g.lt
  have hs := hp.2.size
  refine ⟨(h.call hp).below ((Below.refl _ _).alloc (Nat.le_refl _) _), hz, by omega, fun b hd => ?_⟩
  have n1 : vo.ownBlock ≠ some b := fun e => by have := (h.o.own.lt b e).2; omega
  have n2 : vf.ownBlock ≠ some b := fun e => by have := (h.f.own.lt b e).2; omega
  exact ⟨⟨⟨by omega, by omega, n1⟩, n2⟩, ⟨⟨by omega, by omega, n2⟩, n1⟩⟩

end Go.Proofs.YtkfllppggjhhmaaGreatDoor
/-
  doc's parser: a definition.
-/
namespace Go.Proofs.YtkfllppggjhhmaaGreatDoor
open Go.RowKit

theorem infoOp : (Tryz.prog.info? 45).map (fun i => (i.zero, i.size, i.bytes)) = some (some (.agg #[.bool false, .string ⟨#[]⟩, .slice none 0 0, .slice none 0 0, .slice none 0 0]), 5, 96) := by kernel_rfl
theorem infoFrag : (Tryz.prog.info? 61).map (fun i => (i.zero, i.size, i.bytes)) = some (some (.agg #[.string ⟨#[]⟩, .string ⟨#[]⟩, .slice none 0 0, .slice none 0 0]), 4, 80) := by kernel_rfl

set_option maxHeartbeats 8000000 in
set_option maxRecDepth 100000 in
theorem pDef_any {c : Cx} {w : World} {d : DocT} {s : Ms} {vo vf : Value} {co cf : List Value} (W : World) (h : Ds c w d s vo vf co cf W) (hn1 : d.ops.length ≤ 700) (hn2 : d.frags.length ≤ 700) :
    Calls Tryz.prog 85 #[.pointer (some ⟨c.R, 0, none⟩), .pointer (some ⟨w.heap.size + 1, 0, none⟩)] W fun e W' => e = .returned (.tuple #[]) ∧ ∃ vo' vf' co' cf', Ds c w (defM c.z d s).1 (defM c.z d s).2 vo' vf' co' cf' W' := by
  obtain ⟨i2, hi2, hz20, hz21, hz22⟩ := info_parts infoFrag
  obtain ⟨i3, hi3, hz30, hz31, hz32⟩ := info_parts infoOp
  obtain ⟨aO, cO, rfl, hcO, -⟩ := fresh_row h.o.own
  obtain ⟨aF, cF, rfl, hcF, -⟩ := fresh_row h.f.own
  have HT := pTakeWord_any fragS W h.g.b.p.1
  have HM := Lib.hid (show defM c.z d s = if isWd fragS (hdT s.l) then (⟨d.ops, d.frags ++ [(fraM c.z (tlM s)).1]⟩, (fraM c.z (tlM s)).2) else (⟨d.ops ++ [(opeM c.z s).1], d.frags⟩, (opeM c.z s).2) from rfl)
  generalize defM c.z d s = RES at *
  have HH := Lib.hid h
  clear h
  cases hi : isWd fragS (hdT s.l) with
  | true =>
    rw [hi] at HT HM
    simp only [reduceIte] at HT HM
    clear hi
    go_enter Tryz.func85, Tryz.ntmps85
    go_wp2_with fail
    refine HT.mono ?_
    rintro e w1 ⟨rfl, p1⟩
    have D1 := HH.out.call p1
    have HC := pFrag_any w1.drew p1.1.drew
    generalize fraM c.z (tlM s) = RQ at *
    obtain ⟨x, s5⟩ := RQ
    dsimp only at HM
    have D1d := D1.below ((Below.refl _ w1).drew)
    have HD1 := Lib.hid D1d
    obtain ⟨k0, k1, kf, kl⟩ := blk2 D1.g.h1
    have HOWN := Lib.hid D1.f.own
    clear p1 D1 D1d HT
    go_wp2_with fail
    go_upto_region 1 with fail
    go_region_law (first
      | (refine step_append_lies _ rfl (.tmp 10) (.tmp 13) 23 rfl (w.heap.size + 2) 61 i2 (.agg #[.string ⟨#[]⟩, .string ⟨#[]⟩, .slice none 0 0, .slice none 0 0]) 4 80 Tryz.underlying23 hi2 hz20 hz21 hz22 rfl (by decide) (.slice aF d.frags.length cF) d.frags.length cf (by simp [Act.eval]) HN.out.1.f.own ⟨w3.heap.size, 0, none⟩ 1 1 [.string ⟨x.nm.toArray⟩, .string ⟨x.on_.toArray⟩, .slice xa x.dirs.length xc, .slice sa x.sels.length sc] (by simp [Act.eval]) rfl HPR.out HONE.out (by decide) (by unfold maxLen; omega) (by omega) HN.out.2.2.1 (w3.heap.size + 1) HN.out.2.1 ?_; intro g8 cap8 w8 hown8 hg8 hlie8 hl8; have G8 := grow_lg HN.out.1.g (fun g e => (HN.out.1.f.own.lt g e).1) hg8; obtain ⟨m0, m1, mf, ml⟩ := blk2 G8.h1; clear G8)
      | (go_simp; (go_at_call 137); (with_reducible refine HC.mono ?_); rintro e w3 ⟨es, hee, hE, hp3⟩; dsimp only at hE hp3; obtain ⟨hz1, vd, vs, rfl, hd1, hs1⟩ := hE; obtain ⟨xa, xc, rfl⟩ := hd1.shape; obtain ⟨sa, sc, rfl⟩ := hs1.shape; have hee : e = .returned (.agg #[.string ⟨x.nm.toArray⟩, .string ⟨x.on_.toArray⟩, .slice xa x.dirs.length xc, .slice sa x.sels.length sc]) := hee; subst hee; have hE' : FragE w3 (fun b => w1.drew.heap.size ≤ b ∧ b < w3.heap.size) x [.string ⟨x.nm.toArray⟩, .string ⟨x.on_.toArray⟩, .slice xa x.dirs.length xc, .slice sa x.sels.length sc] := ⟨hz1, _, _, rfl, hd1, hs1⟩; have HN := Lib.hid (HD1.out.newPart hp3 (.cells #[.string ⟨x.nm.toArray⟩, .string ⟨x.on_.toArray⟩, .slice xa x.dirs.length xc, .slice sa x.sels.length sc] 61 (0, 0))); have HONE := Lib.hid (fragOk.one hE'); have HPR := Lib.hid (rec_new w3 4 #[.string ⟨x.nm.toArray⟩, .string ⟨x.on_.toArray⟩, .slice xa x.dirs.length xc, .slice sa x.sels.length sc] 61); have HE3 := Lib.hid (show Ex FragE (.slice aO d.ops.length cO) (w3.alloc (.cells #[.string ⟨x.nm.toArray⟩, .string ⟨x.on_.toArray⟩, .slice xa x.dirs.length xc, .slice sa x.sels.length sc] 61 (0, 0))) (OD (w.heap.size + 2) (w3.alloc (.cells #[.string ⟨x.nm.toArray⟩, .string ⟨x.on_.toArray⟩, .slice xa x.dirs.length xc, .slice sa x.sels.length sc] 61 (0, 0))) (.slice aF d.frags.length cF)) x [.string ⟨x.nm.toArray⟩, .string ⟨x.on_.toArray⟩, .slice xa x.dirs.length xc, .slice sa x.sels.length sc] from fragOk.step (fun b hd => (HN.out.2.2.2 b hd).2) (fun b o hd => World.cell?_of_block (a := ⟨b, o, none⟩) (Below.heap_alloc _ _ _ hd.2)) hE'); have D3 := HD1.out.call hp3; obtain ⟨n0, n1, nf, nl⟩ := blk2 D3.g.h1; clear D3 hE' hp3 hd1 hs1))
    all_goals
      have HX := Lib.hid (HN.out.1.fragDone HE3.out hown8 hg8 (by
        rcases hlie8 with ea | ea
        · exact .inl ea.symm
        · exact .inr (by rw [HN.out.2.1, ea]; rfl)))
      clear HN HONE HPR HE3 hown8 hg8 hlie8 HD1
      go_wp2_with fail
      refine bodyPost_ret (v := .tuple #[]) (results_none rfl _ _ _) rfl ?_
      rw [HM.out]
      exact ⟨rfl, _, _, _, _, HX.out⟩
  | false =>
    rw [hi] at HT HM
    simp only [reduceIte, Bool.false_eq_true] at HT HM
    clear hi
    go_enter Tryz.func85, Tryz.ntmps85
    go_wp2_with fail
    refine HT.mono ?_
    rintro e w1 ⟨rfl, p1⟩
    have D1 := HH.out.call p1
    have HC := pOper_any w1.drew p1.1.drew
    generalize opeM c.z s = RQ at *
    obtain ⟨x, s5⟩ := RQ
    dsimp only at HM
    have D1d := D1.below ((Below.refl _ w1).drew)
    have HD1 := Lib.hid D1d
    obtain ⟨k0, k1, kf, kl⟩ := blk2 D1.g.h1
    have HOWN := Lib.hid D1.o.own
    clear p1 D1 D1d HT
    go_wp2_with fail
    go_upto_region 2 with fail
    go_region_law (first
      | (refine step_append_lies _ rfl (.tmp 21) (.tmp 24) 22 rfl (w.heap.size + 2) 45 i3 (.agg #[.bool false, .string ⟨#[]⟩, .slice none 0 0, .slice none 0 0, .slice none 0 0]) 5 96 Tryz.underlying22 hi3 hz30 hz31 hz32 rfl (by decide) (.slice aO d.ops.length cO) d.ops.length co (by simp [Act.eval]) HN.out.1.o.own ⟨w3.heap.size, 0, none⟩ 1 1 [.bool x.mut_, .string ⟨x.nm.toArray⟩, .slice ya x.vars.length yc, .slice xa x.dirs.length xc, .slice sa x.sels.length sc] (by simp [Act.eval]) rfl HPR.out HONE.out (by decide) (by unfold maxLen; omega) (by omega) HN.out.2.2.1 (w3.heap.size + 1) HN.out.2.1 ?_; intro g8 cap8 w8 hown8 hg8 hlie8 hl8; have G8 := grow_lg HN.out.1.g (fun g e => (HN.out.1.o.own.lt g e).1) hg8; obtain ⟨m0, m1, mf, ml⟩ := blk2 G8.h1; clear G8)
      | (go_simp; (go_at_call 138); (with_reducible refine HC.mono ?_); rintro e w3 ⟨es, hee, hE, hp3⟩; dsimp only at hE hp3; obtain ⟨hz1, vv, vd, vs, rfl, hv1, hd1, hs1⟩ := hE; obtain ⟨ya, yc, rfl⟩ := hv1.shape; obtain ⟨xa, xc, rfl⟩ := hd1.shape; obtain ⟨sa, sc, rfl⟩ := hs1.shape; have hee : e = .returned (.agg #[.bool x.mut_, .string ⟨x.nm.toArray⟩, .slice ya x.vars.length yc, .slice xa x.dirs.length xc, .slice sa x.sels.length sc]) := hee; subst hee; have hE' : OpE w3 (fun b => w1.drew.heap.size ≤ b ∧ b < w3.heap.size) x [.bool x.mut_, .string ⟨x.nm.toArray⟩, .slice ya x.vars.length yc, .slice xa x.dirs.length xc, .slice sa x.sels.length sc] := ⟨hz1, _, _, _, rfl, hv1, hd1, hs1⟩; have HN := Lib.hid (HD1.out.newPart hp3 (.cells #[.bool x.mut_, .string ⟨x.nm.toArray⟩, .slice ya x.vars.length yc, .slice xa x.dirs.length xc, .slice sa x.sels.length sc] 45 (0, 0))); have HONE := Lib.hid (opOk.one hE'); have HPR := Lib.hid (rec_new w3 5 #[.bool x.mut_, .string ⟨x.nm.toArray⟩, .slice ya x.vars.length yc, .slice xa x.dirs.length xc, .slice sa x.sels.length sc] 45); have HE3 := Lib.hid (show Ex OpE (.slice aF d.frags.length cF) (w3.alloc (.cells #[.bool x.mut_, .string ⟨x.nm.toArray⟩, .slice ya x.vars.length yc, .slice xa x.dirs.length xc, .slice sa x.sels.length sc] 45 (0, 0))) (OD (w.heap.size + 2) (w3.alloc (.cells #[.bool x.mut_, .string ⟨x.nm.toArray⟩, .slice ya x.vars.length yc, .slice xa x.dirs.length xc, .slice sa x.sels.length sc] 45 (0, 0))) (.slice aO d.ops.length cO)) x [.bool x.mut_, .string ⟨x.nm.toArray⟩, .slice ya x.vars.length yc, .slice xa x.dirs.length xc, .slice sa x.sels.length sc] from opOk.step (fun b hd => (HN.out.2.2.2 b hd).1) (fun b o hd => World.cell?_of_block (a := ⟨b, o, none⟩) (Below.heap_alloc _ _ _ hd.2)) hE'); have D3 := HD1.out.call hp3; obtain ⟨n0, n1, nf, nl⟩ := blk2 D3.g.h1; clear D3 hE' hp3 hd1 hs1 hv1))
    all_goals
      have HX := Lib.hid (HN.out.1.opDone HE3.out hown8 hg8 (by
        rcases hlie8 with ea | ea
        · exact .inl ea.symm
        · exact .inr (by rw [HN.out.2.1, ea]; rfl)))
      clear HN HONE HPR HE3 hown8 hg8 hlie8 HD1
      go_wp2_with fail
      go_end0
      rw [HM.out]
      exact ⟨rfl, _, _, _, _, HX.out⟩

end Go.Proofs.YtkfllppggjhhmaaGreatDoor
/-
  doc's parser: the document; Parse.
-/
namespace Go.Proofs.YtkfllppggjhhmaaGreatDoor
open Go.RowKit

theorem mqM_eats (z : Nat) (s : Ms) : Eats s (mqM z s).2 := by
  unfold mqM
  split
  · rename_i h; exact tl_eats (wdT_k h)
  · exact wdM_eats z _ s
theorem nnM_fwd (z : Nat) (s : Ms) : Fwd s (nnM z s).2 := by
  unfold nnM
  split
  · exact (nmM_eats z s).fwd
  · exact .refl s
theorem hedM_eats (z : Nat) (s : Ms) : Eats s (hedM z s).2 := (mqM_eats z s).then (((nnM_fwd z _).trans (soM_fwd z _ _ (fun s => (vdM_eats z s).fwd) _)).trans (dirM_fwd z _))
theorem oheM_fwd (z : Nat) (s : Ms) : Fwd s (oheM z s).2 := by
  unfold oheM
  split
  · exact .refl s
  · exact (hedM_eats z s).fwd
theorem opeM_eats (z : Nat) (s : Ms) : Eats s (opeM z s).2 := (oheM_fwd z s).then (setM_eats z 12 _)
theorem fraM_eats (z : Nat) (s : Ms) : Eats s (fraM z s).2 := by
  have h2 : Fwd s (fnmM z s).2 := by
    unfold fnmM
    split
    · exact (fail_eats z (by decide) s).fwd.trans (nmM_eats z _).fwd
    · exact (nmM_eats z s).fwd
  exact (((h2.trans (wdM_eats z onS _).fwd).trans (nmM_eats z _).fwd).trans (dirM_fwd z _)).then (setM_eats z 12 _)
theorem defM_eats (z : Nat) (d : DocT) (s : Ms) : Eats s (defM z d s).2 := by
  unfold defM
  split
  · exact (Fwd.then ⟨tl_le s, id⟩ (fraM_eats z (tlM s)))
  · exact opeM_eats z s
theorem defM_len (z : Nat) (d : DocT) (s : Ms) : (defM z d s).1.ops.length + (defM z d s).1.frags.length = d.ops.length + d.frags.length + 1 := by
  unfold defM
  split
  · show d.ops.length + (d.frags ++ [_]).length = _
    rw [List.length_append, List.length_singleton]; omega
  · show (d.ops ++ [_]).length + d.frags.length = _
    rw [List.length_append, List.length_singleton]; omega

theorem RowD.elem {α : Type} {E E' : ElemR α} {sz : Nat} {w : World} {D : Nat → Prop} {xs : List α} {v : Value} (h : RowD E sz w D xs v) (hE : ∀ x cs, E w D x cs → E' w D x cs) : RowD E' sz w D xs v := by
  obtain ⟨a, cap, e, h1, h2, hr⟩ := h
  refine ⟨a, cap, e, h1, h2, fun hp => ?_⟩
  obtain ⟨g, off, e, hg, hc⟩ := hr hp
  refine ⟨g, off, e, hg, fun i x hx => ?_⟩
  obtain ⟨cs, hl, hcs, hR⟩ := hc i x hx
  exact ⟨cs, hl, hcs, hE x cs hR⟩
theorem Ex.plain {α : Type} {E : ElemR α} {sz : Nat} (hE : ElemOk E sz) {v : Value} {w : World} {D : Nat → Prop} {x : α} {cs : List Value} (h : Ex E v w D x cs) : E w D x cs := hE.step (fun _ hd => hd.1) (fun _ _ _ => rfl) h
theorem Ds.done {c : Cx} {w W : World} {d : DocT} {s : Ms} {vo vf : Value} {co cf : List Value} (h : Ds c w d s vo vf co cf W) (h1 : d.ops.length ≤ 2000000) (h2 : d.frags.length ≤ 2000000) :
    ((W.setCell ⟨w.heap.size, 0, none⟩ vo).setCell ⟨w.heap.size, 1, none⟩ vf).heap[w.heap.size]? = some (.cells #[vo, vf] 25 (0, 0)) ∧ Pw c 0 s w ((W.setCell ⟨w.heap.size, 0, none⟩ vo).setCell ⟨w.heap.size, 1, none⟩ vf) ∧
    DocE ((W.setCell ⟨w.heap.size, 0, none⟩ vo).setCell ⟨w.heap.size, 1, none⟩ vf) (fun b => w.heap.size ≤ b ∧ b < ((W.setCell ⟨w.heap.size, 0, none⟩ vo).setCell ⟨w.heap.size, 1, none⟩ vf).heap.size) d (.agg #[vo, vf]) := by
  have U0 := h.g.b.finE 0 vo (b0' := #[vo, .slice none 0 0]) rfl
  have U1 := U0.finE 1 vf (b0' := #[vo, vf]) rfl
  have hs : ((W.setCell ⟨w.heap.size, 0, none⟩ vo).setCell ⟨w.heap.size, 1, none⟩ vf).heap.size = W.heap.size := by simp [World.setCell]
  have hD : ∀ b, (w.heap.size + 2 ≤ b ∧ b < W.heap.size) → (w.heap.size ≤ b ∧ b < ((W.setCell ⟨w.heap.size, 0, none⟩ vo).setCell ⟨w.heap.size, 1, none⟩ vf).heap.size) := fun b hd => ⟨by omega, by rw [hs]; exact hd.2⟩
  have hk : ∀ b o, (w.heap.size + 2 ≤ b ∧ b < W.heap.size) → ((W.setCell ⟨w.heap.size, 0, none⟩ vo).setCell ⟨w.heap.size, 1, none⟩ vf).cell? ⟨b, o, none⟩ = W.cell? ⟨b, o, none⟩ := fun b o hd => World.cell?_of_block (a := ⟨b, o, none⟩) (by
    rw [Below.heap_setCell _ _ _ _ (show b ≠ w.heap.size by omega), Below.heap_setCell _ _ _ _ (show b ≠ w.heap.size by omega)])
  exact ⟨U1.h0, U1.p, vo, vf, rfl, RowD.step opOk hD hk ((h.o.done (exOk opOk vf) h1).elem fun _ _ => Ex.plain opOk), RowD.step fragOk hD hk ((h.f.done (exOk fragOk vo) h2).elem fun _ _ => Ex.plain fragOk)⟩

/-- What remains of the loop over definitions. -/
def DcRel (c : Cx) (w : World) (RES : DocT × Ms) (j : Nat) (wr : World) : Prop :=
  ∃ d s vo vf co cf, Ds c w d s vo vf co cf wr ∧ s.l.length < j ∧ d.ops.length + d.frags.length + s.l.length ≤ 601 ∧ dgoM c.z j d s = RES
def DocAns (c : Cx) (w : World) (r : DocT × Ms) (e : Ending) (w' : World) : Prop :=
  ∃ vo vf, e = .returned (.agg #[vo, vf]) ∧ DocE w' (fun b => w.heap.size ≤ b ∧ b < w'.heap.size) r.1 (.agg #[vo, vf]) ∧ Pw c 0 r.2 w w'

set_option maxHeartbeats 8000000 in
set_option maxRecDepth 100000 in
theorem pDoc_any {c : Cx} {s : Ms} (w : World) (h : Pv c 0 s w) : Calls Tryz.prog 41 #[.pointer (some ⟨c.R, 0, none⟩)] w (DocAns c w (dcM c.z s)) := by
  have G0 := (Lb.new h 25 #[.slice none 0 0, .slice none 0 0]).made #[.slice none 0 0, .slice none 0 0]
  have hgs : (w.alloc (.cells #[.slice none 0 0, .slice none 0 0] 25 (0, 0))).heap.size = w.heap.size + 1 := by simp
  rw [hgs] at G0
  have D0 : Ds c w docZ s (.slice none 0 0) (.slice none 0 0) [] [] _ := ⟨G0, .nil, .nil, fun b e => by cases e⟩
  have HC1 := pDef_any _ D0 (by decide) (by decide)
  have HE := Lib.hid (defM_eats c.z docZ s)
  have HL := Lib.hid (defM_len c.z docZ s)
  have HM := Lib.hid (show dcM c.z s = dgoM c.z ((defM c.z docZ s).2.l.length + 1) (defM c.z docZ s).1 (defM c.z docZ s).2 from rfl)
  have HLEN := Lib.hid h.len
  generalize dcM c.z s = RES at *
  generalize defM c.z docZ s = R1 at *
  obtain ⟨d1, s1⟩ := R1
  dsimp only at HC1 HE HL HM
  clear G0 D0 h hgs
  go_enter Tryz.func41, Tryz.ntmps41
  go_wp2_with fail
  refine HC1.mono ?_
  rintro e w1 ⟨rfl, vo, vf, co, cf, D1⟩
  have HD1 := Lib.hid D1
  clear D1 HC1
  go_wp2_with fail
  go_loopg [] (s1.l.length + 1) (fun j wr => DcRel c w RES j wr)
  case atStart => exact ⟨d1, s1, vo, vf, co, cf, HD1.out, Nat.lt_succ_self _, by have := HL.out; have := HE.out.le; have := HLEN.out; show _ ≤ 601; have h0 : docZ.ops.length + docZ.frags.length = 0 := rfl; omega, HM.out.symm⟩
  case round =>
    obtain ⟨d, s2, vo2, vf2, co2, cf2, D2, hj, hcnt, hres⟩ := hrel
    obtain ⟨j2, rfl⟩ : ∃ j', gk = j' + 1 := ⟨gk - 1, by omega⟩
    obtain ⟨m, p, hbk, hp, hm, hl⟩ := D2.g.b.p.1.bk
    obtain ⟨c0, c1, -, -, -, -, -⟩ := prCell hbk
    have hRr := D2.g.b.p.1.lt
    have HD2 := Lib.hid D2
    have hlen : s2.l.length = m - p := by rw [← hl, take_drop_len hm]
    clear HD1 HE HL HM HLEN hbk hl
    by_cases he : p < m
    · have hd : decide ((p : Int) < (m : Int)) = true := decide_eq_true (by omega)
      have hd2 : decide (p < m) = true := decide_eq_true he
      have HS := Lib.hid (show RES = dgoM c.z j2 (defM c.z d s2).1 (defM c.z d s2).2 by
        rw [← hres, dgoM, if_neg (by rw [List.isEmpty_iff]; intro e; rw [e] at hlen; simp at hlen; omega)])
      have HC := fun n => pDef_any (wr.drewN n) (D2.below (below_drewN (Below.refl _ _) n)) (by omega) (by omega)
      have HE := Lib.hid (defM_eats c.z d s2)
      have HL := Lib.hid (defM_len c.z d s2)
      generalize defM c.z d s2 = R2 at *
      obtain ⟨d3, s3⟩ := R2
      dsimp only at HS HC HE HL
      have HJ := Lib.hid hj
      have HCN := Lib.hid hcnt
      have HLN := Lib.hid hlen
      clear D2 hres hj hcnt hlen
      go_upto_region 3 with fail
      go_quiet (fail)
      go_wp2_with fail
      refine (HC _).mono ?_
      rintro e w3 ⟨rfl, vo3, vf3, co3, cf3, D3⟩
      have HD3 := Lib.hid D3
      have hbad := D3.g.b.p.1.bad
      have HB := Lib.hid (show s3.l.length < s2.l.length from by
        by_cases h0 : s3.er = 0
        · exact HE.out.lt h0
        · rw [hbad h0]; have := HLN.out; show 0 < _; omega)
      clear D3 HC hbad
      go_wp2_with fail
      go_roundg j2
      case measure => omega
      case rel => exact ⟨d3, s3, vo3, vf3, co3, cf3, HD3.out, by have := HB.out; have := HJ.out; omega, by have := HB.out; have := HL.out; have := HCN.out; omega, HS.out.symm⟩
    · have hd : decide ((p : Int) < (m : Int)) = false := decide_eq_false (by omega)
      have hd2 : decide (p < m) = false := decide_eq_false he
      have HS := Lib.hid (show RES = (d, s2) by
        rw [← hres, dgoM, if_pos (by rw [List.isEmpty_iff]; exact List.eq_nil_of_length_eq_zero (by omega))])
      have HDN := Lib.hid (fun n => (D2.below (below_drewN (Below.refl _ _) n) : Ds c w d s2 vo2 vf2 co2 cf2 (wr.drewN n)).done (by omega) (by omega))
      obtain ⟨k0, k1, kf, kl⟩ := blk2 D2.g.h1
      obtain ⟨q0, q1, qf, ql⟩ := blk2 D2.g.b.h0
      obtain ⟨aO, cO, rfl, -, -⟩ := fresh_row D2.o.own
      obtain ⟨aF, cF, rfl, -, -⟩ := fresh_row D2.f.own
      clear D2 hres hj hcnt hlen HD2
      go_upto_region 3 with fail
      go_quiet (fail)
      rename_i nq
      obtain ⟨hb, hp2, hdoc⟩ := HDN.out nq
      obtain ⟨f0, f1, -, -⟩ := blk2 hb
      have HF := Lib.hid (And.intro f0 f1)
      have HX := Lib.hid (And.intro hdoc hp2)
      clear hb hp2 hdoc f0 f1
      go_wp2_with fail
      obtain ⟨f0, f1⟩ := HF.out
      refine bodyPost_ret (v := .agg #[.slice aO d.ops.length cO, .slice aF d.frags.length cF]) (by simp [results, Tryz.results41, go_sem, f0, f1]) rfl ?_
      rw [HS.out]
      exact ⟨_, _, rfl, HX.out.1, HX.out.2⟩

end Go.Proofs.YtkfllppggjhhmaaGreatDoor
