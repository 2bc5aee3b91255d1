/-
  sdl's parser: one type more.
-/
import Derived.Test.YtkahnlgedacppaaGreatDoorMSx0
namespace Go.Proofs.YtkahnlgedacppaaGreatDoor
open Go.RowKit Go.Maps

theorem infoTyp : (Tryz.prog.info? 45).map (fun i => (i.zero, i.size, i.bytes)) = some (some (.agg #[.int .i64 0, .string ⟨#[]⟩, .slice none 0 0, .slice none 0 0, .slice none 0 0]), 5, 96) := by kernel_rfl
/-- What a call leaves that adds to the schema: the state, nothing older changed. -/
def SxAns (B : SdB) (b : Bool) (r : SchT × Ms) (w : World) (e : Ending) (w' : World) : Prop :=
  e = .returned (.tuple #[]) ∧ (∃ vt ct, Sx B b r.1 r.2 vt ct w') ∧ Below B.n w w'
theorem blk5s {B : SdB} {x : SchT} {vt : Value} {W : World} (h : W.heap[B.c.Q]? = some (sdO B.c.R x vt B.M)) : W.cell? ⟨B.c.Q, 0, none⟩ = some (.pointer (some ⟨B.c.R, 0, none⟩)) ∧ W.cell? ⟨B.c.Q, 1, none⟩ = some (.string ⟨x.qu.toArray⟩) ∧ W.cell? ⟨B.c.Q, 2, none⟩ = some (.string ⟨x.mu.toArray⟩) ∧ W.cell? ⟨B.c.Q, 3, none⟩ = some vt ∧ W.cell? ⟨B.c.Q, 4, none⟩ = some (.map (some B.M)) ∧ (∀ j, W.frozen? ⟨B.c.Q, j, none⟩ = false) ∧ B.c.Q < W.heap.size :=
  ⟨Lib.cell_of_heap h 0, Lib.cell_of_heap h 1, Lib.cell_of_heap h 2, Lib.cell_of_heap h 3, Lib.cell_of_heap h 4, fun j => by simp [World.frozen?, h, sdO], (Array.getElem?_eq_some_iff.1 h).1⟩

set_option maxHeartbeats 8000000 in
set_option maxRecDepth 100000 in
theorem sAdd_any {B : SdB} {b : Bool} {x : SchT} {s : Ms} {vt : Value} {ct : List Value} {t : TypT} {an af ai : Option Addr} {cn cf ci : Nat} (W : World) (h : Sx B b x s vt ct W) (hl : x.types.length + 1 + s.l.length ≤ 8001)
    (hE : TypE W (OD (B.M + 1) W vt) t [.int .i64 (t.k : Int), .string ⟨t.nm.toArray⟩, .slice an t.names.length cn, .slice af t.flds.length cf, .slice ai t.ins.length ci]) :
    Calls Tryz.prog 139 #[.pointer (some ⟨B.c.Q, 0, none⟩), .agg #[.int .i64 (t.k : Int), .string ⟨t.nm.toArray⟩, .slice an t.names.length cn, .slice af t.flds.length cf, .slice ai t.ins.length ci]] W (SxAns B b (⟨x.qu, x.mu, x.types ++ [t]⟩, s) W) := by
  obtain ⟨i2, hi2, hz20, hz21, hz22⟩ := info_parts infoTyp
  have hb0 : Below W.heap.size W (W.alloc (.cells #[.int .i64 (t.k : Int), .string ⟨t.nm.toArray⟩, .slice an t.names.length cn, .slice af t.flds.length cf, .slice ai t.ins.length ci] 45)) := (Below.refl _ W).alloc (Nat.le_refl _) _
  have hX := h.below hb0.drew
  have hsX : (W.alloc (.cells #[.int .i64 (t.k : Int), .string ⟨t.nm.toArray⟩, .slice an t.names.length cn, .slice af t.flds.length cf, .slice ai t.ins.length ci] 45)).drew.heap.size = W.heap.size + 1 := by show (W.alloc _).heap.size = _; simp
  have hbx : (W.alloc (.cells #[.int .i64 (t.k : Int), .string ⟨t.nm.toArray⟩, .slice an t.names.length cn, .slice af t.flds.length cf, .slice ai t.ins.length ci] 45)).heap[W.heap.size]? = some (.cells #[.int .i64 (t.k : Int), .string ⟨t.nm.toArray⟩, .slice an t.names.length cn, .slice af t.flds.length cf, .slice ai t.ins.length ci] 45 (0, 0)) := heap_alloc_new _ _
  have hX2 := hX.1.below ((Below.refl _ (W.alloc (.cells #[.int .i64 (t.k : Int), .string ⟨t.nm.toArray⟩, .slice an t.names.length cn, .slice af t.flds.length cf, .slice ai t.ins.length ci] 45)).drew).alloc (Nat.le_refl _) (.cells #[.int .i64 (t.k : Int), .string ⟨t.nm.toArray⟩, .slice an t.names.length cn, .slice af t.flds.length cf, .slice ai t.ins.length ci] 45 (0, 0)))
  have HPR := Lib.hid (rec_new (W.alloc (.cells #[.int .i64 (t.k : Int), .string ⟨t.nm.toArray⟩, .slice an t.names.length cn, .slice af t.flds.length cf, .slice ai t.ins.length ci] 45)).drew 5 #[.int .i64 (t.k : Int), .string ⟨t.nm.toArray⟩, .slice an t.names.length cn, .slice af t.flds.length cf, .slice ai t.ins.length ci] 45)
  have HONE := Lib.hid (typOk.one hE)
  have hE2 : TypE ((W.alloc (.cells #[.int .i64 (t.k : Int), .string ⟨t.nm.toArray⟩, .slice an t.names.length cn, .slice af t.flds.length cf, .slice ai t.ins.length ci] 45)).drew.alloc (.cells #[.int .i64 (t.k : Int), .string ⟨t.nm.toArray⟩, .slice an t.names.length cn, .slice af t.flds.length cf, .slice ai t.ins.length ci] 45 (0, 0))) (OD (B.M + 1) ((W.alloc (.cells #[.int .i64 (t.k : Int), .string ⟨t.nm.toArray⟩, .slice an t.names.length cn, .slice af t.flds.length cf, .slice ai t.ins.length ci] 45)).drew.alloc (.cells #[.int .i64 (t.k : Int), .string ⟨t.nm.toArray⟩, .slice an t.names.length cn, .slice af t.flds.length cf, .slice ai t.ins.length ci] 45 (0, 0))) vt) t [.int .i64 (t.k : Int), .string ⟨t.nm.toArray⟩, .slice an t.names.length cn, .slice af t.flds.length cf, .slice ai t.ins.length ci] :=
    typOk.step (fun b hd => ⟨hd.1, by have := hd.2.1; rw [show ∀ (W : World) (o : Obj), (W.alloc o).heap.size = W.heap.size + 1 from fun W o => by simp, hsX]; omega, hd.2.2⟩) (fun b o hd => World.cell?_of_block (a := ⟨b, o, none⟩) (by
      have h1 : b < W.heap.size := hd.2.1
      rw [Below.heap_alloc _ _ _ (by show b < _; rw [hsX]; omega)]
      exact Below.heap_alloc _ _ _ h1)) hE
  obtain ⟨aL, cL, rfl, hcL, _⟩ := fresh_row h.row.own
  have HX2 := Lib.hid hX2.1
  have HB2 := Lib.hid (hX.2.trans hX2.2)
  have HE2 := Lib.hid hE2
  have HOW := Lib.hid hX2.1.row.own
  have hlen := h.len
  have HZ := Lib.hid (show B.M + 1 ≤ ((W.alloc (.cells #[.int .i64 (t.k : Int), .string ⟨t.nm.toArray⟩, .slice an t.names.length cn, .slice af t.flds.length cf, .slice ai t.ins.length ci] 45)).drew.alloc (.cells #[.int .i64 (t.k : Int), .string ⟨t.nm.toArray⟩, .slice an t.names.length cn, .slice af t.flds.length cf, .slice ai t.ins.length ci] 45 (0, 0))).heap.size by
    have := h.map.lt
    rw [show ∀ (W : World) (o : Obj), (W.alloc o).heap.size = W.heap.size + 1 from fun W o => by simp, hsX]; omega)
  have HZ2 := Lib.hid (show ((W.alloc (.cells #[.int .i64 (t.k : Int), .string ⟨t.nm.toArray⟩, .slice an t.names.length cn, .slice af t.flds.length cf, .slice ai t.ins.length ci] 45)).drew.alloc (.cells #[.int .i64 (t.k : Int), .string ⟨t.nm.toArray⟩, .slice an t.names.length cn, .slice af t.flds.length cf, .slice ai t.ins.length ci] 45 (0, 0))).heap.size = (W.alloc (.cells #[.int .i64 (t.k : Int), .string ⟨t.nm.toArray⟩, .slice an t.names.length cn, .slice af t.flds.length cf, .slice ai t.ins.length ci] 45)).drew.heap.size + 1 by simp)
  have hqlt : B.c.Q < W.heap.size := (blk5s h.blk).2.2.2.2.2.2
  have hxm : x.types.length ≤ 9000 := by omega
  obtain ⟨q0, q1, q2, q3, q4, qf, ql⟩ := blk5s (show (W.alloc (.cells #[.int .i64 (t.k : Int), .string ⟨t.nm.toArray⟩, .slice an t.names.length cn, .slice af t.flds.length cf, .slice ai t.ins.length ci] 45)).heap[B.c.Q]? = _ from (Below.heap_alloc _ _ _ hqlt).trans h.blk)
  have hQW : B.c.Q ≠ W.heap.size := by omega
  have HL := Lib.hid hl
  clear h hX hX2 hE hE2 hb0 hbx hsX hlen hl
  go_enter Tryz.func139, Tryz.ntmps139
  go_upto_region 1 with fail
  go_region_law (first
    | (refine step_append_lies _ rfl (.tmp 9) (.tmp 11) 28 rfl (B.M + 1) 45 i2 (.agg #[.int .i64 0, .string ⟨#[]⟩, .slice none 0 0, .slice none 0 0, .slice none 0 0]) 5 96 Tryz.underlying28 hi2 hz20 hz21 hz22 rfl (by decide) (.slice aL x.types.length cL) x.types.length ct (by simp [Act.eval]) HOW.out ⟨(W.alloc (.cells #[.int .i64 (t.k : Int), .string ⟨t.nm.toArray⟩, .slice an t.names.length cn, .slice af t.flds.length cf, .slice ai t.ins.length ci] 45)).drew.heap.size, 0, none⟩ 1 1 [.int .i64 (t.k : Int), .string ⟨t.nm.toArray⟩, .slice an t.names.length cn, .slice af t.flds.length cf, .slice ai t.ins.length ci] (by simp [Act.eval]) rfl HPR.out HONE.out (by decide) (by unfold maxLen; omega) (by omega) HZ.out ((W.alloc (.cells #[.int .i64 (t.k : Int), .string ⟨t.nm.toArray⟩, .slice an t.names.length cn, .slice af t.flds.length cf, .slice ai t.ins.length ci] 45)).drew.heap.size + 1) HZ2.out ?_; intro g8 cap8 w8 hown8 hg8 hlie8 hl8; have HD8 := Lib.hid (HX2.out.added HE2.out HL.out hown8 hg8 (by
        rcases hlie8 with ea | ea
        · exact .inl ea.symm
        · exact .inr (by rw [HZ2.out, ea]; rfl))); obtain ⟨m0, m1, m2, m3, m4, mf, ml⟩ := blk5s HD8.out.1))
  all_goals
    clear hown8 hg8 hlie8 HOW HONE HPR
    go_wp2_with fail
    refine bodyPost_ret (v := .tuple #[]) (results_none rfl _ _ _) rfl ?_
    exact ⟨rfl, ⟨_, _, HD8.out.2.1⟩, HB2.out.trans HD8.out.2.2⟩

end Go.Proofs.YtkahnlgedacppaaGreatDoor
/-
  sdl's parser: a type that a function builds in a block of its own.
-/
namespace Go.Proofs.YtkahnlgedacppaaGreatDoor
open Go.RowKit Go.Maps

theorem Lb.call2 {c : Cx} {k k' : Nat} {w : World} {T : TypeId} {b0 : Array Value} {s s' : Ms} {W W' : World} (h : Lb c k w T b0 s W) (hp : Pw c k' s' W W') : Lb c k' w T b0 s' W' ∧ Kp w w.heap.size W W' := by
  have hR := h.p.1.hR
  have hN := h.hN
  exact ⟨h.call hp, hp.2.size, fun b hb _ hl => hp.2.block b hl (by omega)⟩
theorem Lb.fin2 {c : Cx} {k : Nat} {w : World} {T : TypeId} {b0 : Array Value} {s : Ms} {W : World} (h : Lb c k w T b0 s W) (i : Nat) (v : Value) : Lb c k w T (b0.setIfInBounds i v) s (W.setCell ⟨w.heap.size, i, none⟩ v) ∧ Kp w w.heap.size W (W.setCell ⟨w.heap.size, i, none⟩ v) :=
  ⟨h.fin i v, by simp [World.setCell], fun b hb _ _ => Below.heap_setCell _ _ _ _ (by show b ≠ w.heap.size; omega)⟩
theorem dgb_of {c : Cx} {k : Nat} {w : World} {T : TypeId} {b0 : Array Value} {s : Ms} {W W' : World} (h : Lb c k w T b0 s W) : ∀ b, (W.heap.size ≤ b ∧ b < W'.heap.size) → Dg w w.heap.size W' b := fun _ hd => ⟨by have := h.sz; omega, by have := h.sz; omega, hd.2⟩
/-- All that a definition says has been read: ready to be added. -/
theorem Sx.toAdd {B : SdB} {b : Bool} {x : SchT} {s s1 s4 : Ms} {vt : Value} {ct : List Value} {W w1 W4 : World} {T : TypeId} {b0 : Array Value} (h : Sx B b x s vt ct W) (p1 : Pw (B.cs x vt).toCx 0 s1 W w1) (L : Lb (B.cs x vt).toCx 0 w1 T b0 s4 W4) (hl : s4.l.length ≤ s.l.length) :
    Sx B b x s4 vt ct W4 ∧ Below B.n W W4 ∧ ∀ g, Dg w1 w1.heap.size W4 g → OD (B.M + 1) W4 vt g := by
  have hc := h.call (p1.trans L.p) hl
  have hM := h.map.lt
  have hs := p1.2.size
  refine ⟨hc.1, hc.2, fun g hd => ⟨by have := hd.1; omega, hd.2.2, fun e => ?_⟩⟩
  have := (h.row.own.lt g e).2
  have := hd.1
  omega
theorem impM_fwd (z : Nat) (s : Ms) : Fwd s (impM z s).2 := by
  unfold impM
  split
  · exact (Fwd.trans ⟨tl_le s, id⟩ (nmsM_eats z _ _).fwd)
  · exact .refl s
theorem flsM_fwd (z : Nat) (s : Ms) : Fwd s (flsM z s).2 := (svM_eats z _ _ (fun s => (fldM_eats z s).fwd) s).fwd
theorem sclM_fwd (z : Nat) (s : Ms) : Fwd s (sclM z s).2 := (nmM_eats z s).fwd
theorem objM_fwd (z : Nat) (s : Ms) : Fwd s (objM z s).2 := ((nmM_eats z s).fwd.trans (impM_fwd z _)).trans (flsM_fwd z _)
theorem facM_fwd (z : Nat) (s : Ms) : Fwd s (facM z s).2 := (nmM_eats z s).fwd.trans (flsM_fwd z _)
theorem uniM_fwd (z : Nat) (s : Ms) : Fwd s (uniM z s).2 := ((nmM_eats z s).fwd.trans (sgM_eats z [61] _).fwd).trans (nmsM_eats z _ _).fwd
theorem enuM_fwd (z : Nat) (s : Ms) : Fwd s (enuM z s).2 := (nmM_eats z s).fwd.trans (svM_eats z _ _ (fun s => (deM_eats z s).fwd) _).fwd
theorem iptM_fwd (z : Nat) (s : Ms) : Fwd s (iptM z s).2 := (nmM_eats z s).fwd.trans (svM_eats z _ _ (fun s => (inpM_eats z s).fwd) _).fwd

end Go.Proofs.YtkahnlgedacppaaGreatDoor
/-
  sdl's parser: the roots.
-/
namespace Go.Proofs.YtkahnlgedacppaaGreatDoor
open Go.RowKit Go.Maps Go.WideMaps

theorem lawK : Keyed Tryz.prog 9 := string_keyed Tryz.underlying9
theorem Sx.turned {B : SdB} {b b' : Bool} {x : SchT} {s : Ms} {vt : Value} {ct : List Value} {W W1 : World} (h : Sx B b x s vt ct W) (hm : W1.ownsMap Tryz.prog 9 (fnR B.c.Q) B.M 7 (mapD b')) (hg : W.grownBy W1 (some B.M)) : Sx B b' x s vt ct W1 ∧ Below B.n W W1 := by
  have hM := B.hM
  have hN : B.c.N ≤ W.heap.size := h.p.hN
  have hn := B.hnN
  have hMl := h.map.lt
  have hblk : ∀ b, b < W.heap.size → b ≠ B.M → W1.heap[b]? = W.heap[b]? := fun b hb hne => hg.block b hb (by first | exact fun e => hne (Option.some.inj e) | exact fun e => hne (Option.some.inj e).symm)
  have hz := hg.size
  refine ⟨⟨h.p.keep (fun b hb => hblk b (Nat.lt_of_lt_of_le hb hN) (by have h1 : b < B.c.N := hb; omega)) (Nat.le_trans hN hz), h.row.keep typOk (fun b hb hl => hblk b hl (by omega)) hz, hm, h.len, h.hu⟩, ⟨hg.os, hg.tape, hg.output, hz, fun b hb => hblk b (by omega) (by omega)⟩⟩
theorem rmuM_fwd (z : Nat) (s : Ms) (m : Nm) : Fwd s (rmuM z s m).2 := by
  unfold rmuM
  split
  · exact (Fwd.trans ⟨tl_le s, id⟩ (sgM_eats z [58] _).fwd).trans (nmM_eats z _).fwd
  · exact .refl s
theorem rooM_fwd (z : Nat) (x : SchT) (s : Ms) : Fwd s (rooM z x s).2 := ((((((sgM_eats z [123] s).fwd.trans (wdM_eats z queryS _).fwd).trans (sgM_eats z [58] _).fwd).trans (nmM_eats z _).fwd).trans (rmuM_fwd z _ _))).trans (sgM_eats z [125] _).fwd

/-- A root's name is stored. -/
theorem Sx.root {B : SdB} {b : Bool} {x : SchT} {s : Ms} {vt : Value} {ct : List Value} {W : World} (h : Sx B b x s vt ct W) (nm : Nm) (hn : nm.length ≤ 2000000) :
    (Sx B b ⟨nm, x.mu, x.types⟩ s vt ct (W.setCell ⟨B.c.Q, 1, none⟩ (.string ⟨nm.toArray⟩)) ∧ Below B.n W (W.setCell ⟨B.c.Q, 1, none⟩ (.string ⟨nm.toArray⟩))) ∧ (Sx B b ⟨x.qu, nm, x.types⟩ s vt ct (W.setCell ⟨B.c.Q, 2, none⟩ (.string ⟨nm.toArray⟩)) ∧ Below B.n W (W.setCell ⟨B.c.Q, 2, none⟩ (.string ⟨nm.toArray⟩))) :=
  ⟨h.held rfl ⟨hn, h.hu.2⟩ (by rw [Lib.heap_setCell_same h.blk]; rfl) (fun b hb => Below.heap_setCell _ _ _ _ hb) (by simp [World.setCell]) ⟨rfl, rfl, rfl⟩,
   h.held rfl ⟨h.hu.1, hn⟩ (by rw [Lib.heap_setCell_same h.blk]; rfl) (fun b hb => Below.heap_setCell _ _ _ _ hb) (by simp [World.setCell]) ⟨rfl, rfl, rfl⟩⟩

set_option maxHeartbeats 8000000 in
set_option maxRecDepth 100000 in
theorem sRoots_any {B : SdB} {x : SchT} {s : Ms} {vt : Value} {ct : List Value} (W : World) (h : Sx B true x s vt ct W) :
    Calls Tryz.prog 84 #[.pointer (some ⟨B.c.Q, 0, none⟩)] W (SxAns B false (rooM B.c.z x s) W) := by
  obtain ⟨q0, -, -, -, q4, -, l00⟩ := blk5s h.blk
  have hown := h.map
  have hkey : keyOf Tryz.prog 9 (.string ⟨#[115, 99, 104, 101, 109, 97]⟩) = some (.string schemaS) := keyOf_string_mk Tryz.underlying9 (by decide)
  have HH := Lib.hid h
  have HM := Lib.hid (show rooM B.c.z x s = (⟨(nmM B.c.z (sgM B.c.z [58] (wdM B.c.z queryS (sgM B.c.z [123] s)))).1, (rmuM B.c.z (nmM B.c.z (sgM B.c.z [58] (wdM B.c.z queryS (sgM B.c.z [123] s)))).2 x.mu).1, x.types⟩, sgM B.c.z [125] (rmuM B.c.z (nmM B.c.z (sgM B.c.z [58] (wdM B.c.z queryS (sgM B.c.z [123] s)))).2 x.mu).2) from rfl)
  generalize rooM B.c.z x s = RES at *
  have HE1 := Lib.hid (sgM_eats B.c.z [123] s).le
  clear h
  go_enter Tryz.func84, Tryz.ntmps84
  go_wp2_with (at_delete; refine wpList_delete_own _ rfl _ _ 98 9 rfl 1 lawK Tryz.underlying98 (fnR B.c.Q) B.M 7 (mapD true) rfl hown _ _ rfl hkey ?_; intro w1 hown1 hturn1; have T1 := HH.out.turned (b' := false) hown1 hturn1.grown; obtain ⟨q01, -, -, -, -, -, l01⟩ := blk5s T1.1.blk)
  have HT1 := Lib.hid T1
  have HC1 := pMust_any [123] w1 T1.1.p
  dsimp only [SdB.cs] at HC1
  clear T1 hown hown1 hturn1
  generalize sgM B.c.z [123] s = s1 at *
  go_wp2_with fail
  refine HC1.mono ?_
  rintro e w2 ⟨rfl, p2⟩
  have T2 := HT1.out.1.call p2 HE1.out
  obtain ⟨q02, -, -, -, -, -, l02⟩ := blk5s T2.1.blk
  have HC2 := pMustWord_any queryS (by decide) w2 T2.1.p
  dsimp only [SdB.cs] at HC2
  have HT2 := Lib.hid (And.intro T2.1 (HT1.out.2.trans T2.2))
  have HE2 := Lib.hid (wdM_eats B.c.z queryS s1).le
  clear T2 p2 HC1 HT1
  generalize wdM B.c.z queryS s1 = s2 at *
  go_wp2_with fail
  refine HC2.mono ?_
  rintro e w3 ⟨rfl, p3⟩
  have T3 := HT2.out.1.call p3 HE2.out
  obtain ⟨q03, -, -, -, -, -, l03⟩ := blk5s T3.1.blk
  have HC3 := pMust_any [58] w3 T3.1.p
  dsimp only [SdB.cs] at HC3
  have HT3 := Lib.hid (And.intro T3.1 (HT2.out.2.trans T3.2))
  have HE3 := Lib.hid (sgM_eats B.c.z [58] s2).le
  clear T3 p3 HC2 HT2
  generalize sgM B.c.z [58] s2 = s3 at *
  go_wp2_with fail
  refine HC3.mono ?_
  rintro e w4 ⟨rfl, p4⟩
  have T4 := HT3.out.1.call p4 HE3.out
  obtain ⟨q04, -, -, -, -, -, l04⟩ := blk5s T4.1.blk
  have HC4 := pNm_any w4 T4.1.p
  have HZ := Lib.hid (nmM_size T4.1.p)
  dsimp only [SdB.cs] at HC4 HZ
  have HT4 := Lib.hid (And.intro T4.1 (HT3.out.2.trans T4.2))
  have HE4 := Lib.hid (nmM_eats B.c.z s3).le
  clear T4 p4 HC3 HT3
  generalize nmM B.c.z s3 = R5 at *
  obtain ⟨qn, s5⟩ := R5
  dsimp only at HC4 HZ HE4 HM
  go_wp2_with fail
  refine HC4.mono ?_
  rintro e w5 ⟨rfl, p5⟩
  have T5 := HT4.out.1.call p5 HE4.out
  have S5 := (T5.1.root qn HZ.out).1
  obtain ⟨a0, a1, a2, a3, a4, af, al⟩ := blk5s T5.1.blk
  have HC5 := pTakeWord_any mutS (by decide) _ S5.1.p
  dsimp only [SdB.cs] at HC5
  have HS5 := Lib.hid (And.intro S5.1 ((HT4.out.2.trans T5.2).trans S5.2))
  have HO := Lib.hid (show rmuM B.c.z s5 x.mu = if isWd mutS (hdT s5.l) then nmM B.c.z (sgM B.c.z [58] (tlM s5)) else (x.mu, s5) from rfl)
  generalize rmuM B.c.z s5 x.mu = RM at *
  obtain ⟨mn, s6⟩ := RM
  dsimp only at HM
  clear T5 S5 p5 HC4 HT4
  go_wp2_with fail
  refine HC5.mono ?_
  rintro e w6 ⟨rfl, p6⟩
  have T6 := HS5.out.1.call p6 (by
    split
    · exact tl_le s5
    · exact Nat.le_refl _)
  obtain ⟨q06, -, -, -, -, -, l06⟩ := blk5s T6.1.blk
  have HT6 := Lib.hid (And.intro T6.1 (HS5.out.2.trans T6.2))
  clear a0 a1 a2 a3 a4 af al T6 p6 HC5 HS5
  go_upto_if 34 with fail
  go_cut [] (fun wc => Sx B false ⟨qn, mn, x.types⟩ s6 vt ct wc ∧ Below B.n W wc)
  case first =>
    cases hi : isWd mutS (hdT s5.l) with
    | true =>
      rw [hi] at HO HT6
      simp only [reduceIte] at HO HT6
      generalize tlM s5 = s7 at *
      have HC6 := pMust_any [58] w6 HT6.out.1.p
      have HE6 := Lib.hid (sgM_eats B.c.z [58] s7).le
      dsimp only [SdB.cs] at HC6
      generalize sgM B.c.z [58] s7 = s8 at *
      clear hi
      go_wp2_with fail
      refine HC6.mono ?_
      rintro e w7 ⟨rfl, p7⟩
      have T7 := HT6.out.1.call p7 HE6.out
      obtain ⟨q07, -, -, -, -, -, l07⟩ := blk5s T7.1.blk
      have HC7 := pNm_any w7 T7.1.p
      have HZ7 := Lib.hid (nmM_size T7.1.p)
      have HE7 := Lib.hid (nmM_eats B.c.z s8).le
      dsimp only [SdB.cs] at HC7 HZ7
      rw [← HO.out] at HC7 HZ7 HE7
      dsimp only at HC7 HZ7 HE7
      have HT7 := Lib.hid (And.intro T7.1 (HT6.out.2.trans T7.2))
      clear T7 p7 HC6 HT6 HO
      go_wp2_with fail
      refine HC7.mono ?_
      rintro e w8 ⟨rfl, p8⟩
      have T8 := HT7.out.1.call p8 HE7.out
      obtain ⟨a0, a1, a2, a3, a4, af, al⟩ := blk5s T8.1.blk
      have S8 := (T8.1.root mn HZ7.out).2
      have HX := Lib.hid (And.intro S8.1 ((HT7.out.2.trans T8.2).trans S8.2))
      clear T8 S8 p8 HC7 HT7
      go_wp2_with fail
      go_meet
      case rel => exact HX.out
    | false =>
      rw [hi] at HO HT6
      simp only [reduceIte, Bool.false_eq_true] at HO HT6
      have ho := HO.out
      injection ho with ho1 ho2
      subst ho1 ho2
      clear hi HO
      go_wp2_with fail
      go_meet
      case rel => exact HT6.out
  case rest =>
    obtain ⟨S9, b9⟩ := hcut
    obtain ⟨q09, -, -, -, -, -, l09⟩ := blk5s S9.blk
    have HC9 := pMust_any [125] wc S9.p
    have HE9 := Lib.hid (sgM_eats B.c.z [125] s6).le
    dsimp only [SdB.cs] at HC9
    have HS9 := Lib.hid (And.intro S9 b9)
    generalize sgM B.c.z [125] s6 = s10 at *
    clear S9 b9 HT6 HO
    go_wp2_with fail
    refine HC9.mono ?_
    rintro e w10 ⟨rfl, p10⟩
    have T10 := HS9.out.1.call p10 HE9.out
    have HX := Lib.hid (And.intro T10.1 (HS9.out.2.trans T10.2))
    clear T10 p10 HC9
    go_wp2_with fail
    go_end0
    rw [HM.out]
    exact ⟨rfl, ⟨_, _, HX.out.1⟩, HX.out.2⟩

end Go.Proofs.YtkahnlgedacppaaGreatDoor
/-
  sdl's parser: a scalar.
-/
namespace Go.Proofs.YtkahnlgedacppaaGreatDoor
open Go.RowKit Go.Maps

set_option maxHeartbeats 8000000 in
set_option maxRecDepth 100000 in
theorem sScalar_any {B : SdB} {b : Bool} {x : SchT} {s : Ms} {vt : Value} {ct : List Value} (W : World) (h : Sx B b x s vt ct W) (hl : x.types.length + 1 + s.l.length ≤ 8001) :
    Calls Tryz.prog 85 #[.pointer (some ⟨B.c.Q, 0, none⟩)] W (SxAns B b (addT x (sclM B.c.z s)) W) := by
  obtain ⟨q00, -, -, -, -, -, l00⟩ := blk5s h.blk
  have HC1 := pNm_any W h.p
  have HZ := Lib.hid (nmM_size h.p)
  have HLE := Lib.hid (sclM_fwd B.c.z s).le
  dsimp only [SdB.cs] at HC1 HZ
  have HH := Lib.hid h
  have HL := Lib.hid hl
  have HM := Lib.hid (show addT x (sclM B.c.z s) = (⟨x.qu, x.mu, x.types ++ [⟨1, (nmM B.c.z s).1, [], [], []⟩]⟩, (nmM B.c.z s).2) from rfl)
  rw [show (sclM B.c.z s).2 = (nmM B.c.z s).2 from rfl] at HLE
  generalize nmM B.c.z s = R1 at *
  obtain ⟨nm, s1⟩ := R1
  dsimp only at HC1 HZ HM HLE
  clear h hl
  go_enter Tryz.func85, Tryz.ntmps85
  go_wp2_with fail
  refine HC1.mono ?_
  rintro e w1 ⟨rfl, p1⟩
  have hx1 := HH.out.call p1 HLE.out
  have HB1 := Lib.hid hx1.2
  have HADD := sAdd_any (t := ⟨1, nm, [], [], []⟩) (an := none) (af := none) (ai := none) (cn := 0) (cf := 0) (ci := 0) w1 hx1.1 (by have := HL.out; have := HLE.out; omega) ⟨HZ.out, _, _, _, rfl, .nil, .nil, .nil⟩
  dsimp only at HADD
  rw [show ((1 : Nat) : Int) = 1 from rfl] at HADD
  clear p1 hx1 HC1
  go_wp2_with fail
  refine HADD.mono ?_
  rintro e w2 ⟨rfl, hst, hb2⟩
  have HX := Lib.hid hst
  have HB := Lib.hid (HB1.out.trans hb2)
  clear hst hb2 HADD
  go_wp2_with fail
  go_end0
  rw [HM.out]
  exact ⟨rfl, HX.out, HB.out⟩

end Go.Proofs.YtkahnlgedacppaaGreatDoor
/-
  sdl's parser: an object.
-/
namespace Go.Proofs.YtkahnlgedacppaaGreatDoor
open Go.RowKit Go.Maps

set_option maxHeartbeats 8000000 in
set_option maxRecDepth 100000 in
theorem sObject_any {B : SdB} {b : Bool} {x : SchT} {s : Ms} {vt : Value} {ct : List Value} (W : World) (h : Sx B b x s vt ct W) (hl : x.types.length + 1 + s.l.length ≤ 8001) :
    Calls Tryz.prog 86 #[.pointer (some ⟨B.c.Q, 0, none⟩)] W (SxAns B b (addT x (objM B.c.z s)) W) := by
  obtain ⟨q00, -, -, -, -, -, l00⟩ := blk5s h.blk
  have HC1 := pNm_any W h.p
  have HZ := Lib.hid (nmM_size h.p)
  have HLE := Lib.hid (objM_fwd B.c.z s).le
  dsimp only [SdB.cs] at HC1 HZ
  have HH := Lib.hid h
  have HL := Lib.hid hl
  have HM := Lib.hid (show addT x (objM B.c.z s) = (⟨x.qu, x.mu, x.types ++ [⟨2, (nmM B.c.z s).1, (impM B.c.z (nmM B.c.z s).2).1, (flsM B.c.z (impM B.c.z (nmM B.c.z s).2).2).1, []⟩]⟩, (flsM B.c.z (impM B.c.z (nmM B.c.z s).2).2).2) from rfl)
  rw [show (objM B.c.z s).2 = (flsM B.c.z (impM B.c.z (nmM B.c.z s).2).2).2 from rfl] at HLE
  generalize nmM B.c.z s = R1 at *
  obtain ⟨nm, s1⟩ := R1
  dsimp only at HC1 HZ HM HLE
  clear h hl
  go_enter Tryz.func86, Tryz.ntmps86
  go_wp2_with fail
  refine HC1.mono ?_
  rintro e w1 ⟨rfl, p1⟩
  have L1 := Lb.new p1.1 45 #[.int .i64 2, .string ⟨nm.toArray⟩, .slice none 0 0, .slice none 0 0, .slice none 0 0]
  have qw1 := Pv.qs (c := B.cs x vt) p1.1
  have lw1 := p1.1.ltQ
  dsimp only [SdB.cs] at qw1 lw1
  have hQg : B.c.Q ≠ w1.heap.size := by omega
  have HP1 := Lib.hid p1
  have HC2 := pTakeWord_any implS (by decide) _ L1.p.1
  dsimp only [SdB.cs] at HC2
  have HO := Lib.hid (show impM B.c.z s1 = if isWd implS (hdT s1.l) then nmsM B.c.z [38] (tlM s1) else ([], s1) from rfl)
  have HL1 := Lib.hid L1
  generalize impM B.c.z s1 = RI at *
  obtain ⟨ns, s2⟩ := RI
  dsimp only at HM HLE
  clear HC1 p1 L1
  go_wp2_with fail
  refine HC2.mono ?_
  rintro e w2 ⟨rfl, p2⟩
  have qw2 := Pv.qs (c := B.cs x vt) p2.1
  have lw2 := p2.1.ltQ
  dsimp only [SdB.cs] at qw2 lw2
  have L2 := (HL1.out.call2 p2).1
  have HL2 := Lib.hid L2
  obtain ⟨b0, b1, b2, b3, b4, bf, bl⟩ := blk5 L2.h0
  clear p2 HC2 HL1 L2
  go_upto_if 13 with fail
  go_cut [] (fun wc => ∃ va vc, Lb (B.cs x vt).toCx 0 w1 45 #[.int .i64 2, .string ⟨nm.toArray⟩, .slice va ns.length vc, .slice none 0 0, .slice none 0 0] s2 wc ∧ RowD StrE 1 wc (Dg w1 w1.heap.size wc) ns (.slice va ns.length vc))
  case first =>
    cases hi : isWd implS (hdT s1.l) with
    | true =>
      rw [hi] at HO HL2
      simp only [reduceIte] at HO HL2
      have HC3 := sNames_any (c := B.cs x vt) [38] _ HL2.out.p.1
      dsimp only [SdB.cs] at HC3
      rw [← HO.out] at HC3
      clear hi HO
      go_wp2_with fail
      refine HC3.mono ?_
      rintro e w3 ⟨v, rfl, hR, p3⟩
      dsimp only at hR p3
      have L3 := HL2.out.call2 p3
      have hd := RowD.step (D' := Dg w1 w1.heap.size w3) (w' := w3) strOk (dgb_of HL2.out) (fun _ _ _ => rfl) hR
      obtain ⟨va, vc, rfl⟩ := hR.shape
      have T3 := L3.1.fin2 2 (.slice va ns.length vc)
      have HX := Lib.hid (And.intro T3.1 (T3.2.row strOk hd))
      clear b0 b1 b2 b3 b4 bf bl
      obtain ⟨b0, b1, b2, b3, b4, bf, bl⟩ := blk5 L3.1.h0
      clear p3 L3 HC3 hd T3 hR HL2
      go_wp2_with fail
      go_meet
      case rel => exact ⟨va, vc, HX.out⟩
    | false =>
      rw [hi] at HO HL2
      simp only [reduceIte, Bool.false_eq_true] at HO HL2
      have ho := HO.out
      injection ho with ho1 ho2
      subst ho1 ho2
      clear hi HO
      go_wp2_with fail
      go_meet
      case rel => exact ⟨none, 0, HL2.out, .nil⟩
  case rest =>
    obtain ⟨va, vc, L3, hN⟩ := hcut
    have qwc := Pv.qs (c := B.cs x vt) L3.p.1
    have lwc := L3.p.1.ltQ
    dsimp only [SdB.cs] at qwc lwc
    have HC4 := sevFld_any [123] [125] (fldM B.c.z) _ L3.p.1 (fun s' W h' => sField_any (c := B.cs x vt) W h' B.hJ) (fun s' _ h2 => (fldM_eats B.c.z s').lt h2)
    dsimp only [SdB.cs] at HC4
    rw [show svM B.c.z [123] [125] (fldM B.c.z) s2 = flsM B.c.z s2 from rfl] at HC4
    have HLA := Lib.hid L3
    have HNA := Lib.hid hN
    generalize flsM B.c.z s2 = RP at *
    obtain ⟨ps, s4⟩ := RP
    dsimp only at HM HLE
    clear L3 hN b0 b1 b2 b3 b4 bf bl HO HL2
    go_wp2_with fail
    refine HC4.mono ?_
    rintro e w3 ⟨v, rfl, hR, p3⟩
    dsimp only at hR p3
    have L4 := HLA.out.call2 p3
    have hd := RowD.step (D' := Dg w1 w1.heap.size w3) (w' := w3) fldOk (dgb_of HLA.out) (fun _ _ _ => rfl) hR
    obtain ⟨fa, fc, rfl⟩ := hR.shape
    have T3 := L4.1.fin2 3 (.slice fa ps.length fc)
    have hd3 := T3.2.row fldOk hd
    have hn3 := T3.2.row strOk (L4.2.row strOk HNA.out)
    obtain ⟨b0, b1, b2, b3, b4, bf, bl⟩ := blk5 L4.1.h0
    have hx3 := HH.out.toAdd HP1.out T3.1 HLE.out
    have HADD := sAdd_any (t := ⟨2, nm, ns, ps, []⟩) (an := va) (cn := vc) (af := fa) (cf := fc) (ai := none) (ci := 0) _ hx3.1 (by have := HL.out; have := HLE.out; omega) ⟨HZ.out, _, _, _, rfl, (RowD.step strOk hx3.2.2 (fun _ _ _ => rfl) hn3), (RowD.step fldOk hx3.2.2 (fun _ _ _ => rfl) hd3), .nil⟩
    dsimp only at HADD
    rw [show ((2 : Nat) : Int) = 2 from rfl] at HADD
    have HB1 := Lib.hid hx3.2.1
    clear p3 hx3 HC4 hd hd3 hn3 L4 T3 HLA HNA hR
    go_wp2_with fail
    refine HADD.mono ?_
    rintro e w4 ⟨rfl, hst, hb4⟩
    have HX := Lib.hid hst
    have HB := Lib.hid (HB1.out.trans hb4)
    clear hst hb4 HADD
    go_wp2_with fail
    go_end0
    rw [HM.out]
    exact ⟨rfl, HX.out, HB.out⟩

end Go.Proofs.YtkahnlgedacppaaGreatDoor
/-
  sdl's parser: an interface.
-/
namespace Go.Proofs.YtkahnlgedacppaaGreatDoor
open Go.RowKit Go.Maps

set_option maxHeartbeats 8000000 in
set_option maxRecDepth 100000 in
theorem sFace_any {B : SdB} {b : Bool} {x : SchT} {s : Ms} {vt : Value} {ct : List Value} (W : World) (h : Sx B b x s vt ct W) (hl : x.types.length + 1 + s.l.length ≤ 8001) :
    Calls Tryz.prog 87 #[.pointer (some ⟨B.c.Q, 0, none⟩)] W (SxAns B b (addT x (facM B.c.z s)) W) := by
  obtain ⟨q00, -, -, -, -, -, l00⟩ := blk5s h.blk
  have HC1 := pNm_any W h.p
  have HZ := Lib.hid (nmM_size h.p)
  have HLE := Lib.hid (facM_fwd B.c.z s).le
  dsimp only [SdB.cs] at HC1 HZ
  have HH := Lib.hid h
  have HL := Lib.hid hl
  have HM := Lib.hid (show addT x (facM B.c.z s) = (⟨x.qu, x.mu, x.types ++ [⟨3, (nmM B.c.z s).1, [], (flsM B.c.z (nmM B.c.z s).2).1, []⟩]⟩, (flsM B.c.z (nmM B.c.z s).2).2) from rfl)
  rw [show (facM B.c.z s).2 = (flsM B.c.z (nmM B.c.z s).2).2 from rfl] at HLE
  generalize nmM B.c.z s = R1 at *
  obtain ⟨nm, s1⟩ := R1
  dsimp only at HC1 HZ HM HLE
  clear h hl
  go_enter Tryz.func87, Tryz.ntmps87
  go_wp2_with fail
  refine HC1.mono ?_
  rintro e w1 ⟨rfl, p1⟩
  have L1 := Lb.new p1.1 45 #[.int .i64 3, .string ⟨nm.toArray⟩, .slice none 0 0, .slice none 0 0, .slice none 0 0]
  have qw1 := Pv.qs (c := B.cs x vt) p1.1
  have lw1 := p1.1.ltQ
  dsimp only [SdB.cs] at qw1 lw1
  have hQg : B.c.Q ≠ w1.heap.size := by omega
  have HP1 := Lib.hid p1
  clear HC1 p1
  have HC3 := sevFld_any [123] [125] (fldM B.c.z) _ L1.p.1 (fun s' W h' => sField_any (c := B.cs x vt) W h' B.hJ) (fun s' _ h2 => (fldM_eats B.c.z s').lt h2)
  dsimp only [SdB.cs] at HC3
  rw [show svM B.c.z [123] [125] (fldM B.c.z) s1 = flsM B.c.z s1 from rfl] at HC3
  have HLA := Lib.hid L1
  generalize flsM B.c.z s1 = RP at *
  obtain ⟨ps, s4⟩ := RP
  dsimp only at HM HLE
  clear L1
  go_wp2_with fail
  refine HC3.mono ?_
  rintro e w3 ⟨v, rfl, hR, p3⟩
  dsimp only at hR p3
  have qw3 := Pv.qs (c := B.cs x vt) p3.1
  have lw3 := p3.1.ltQ
  dsimp only [SdB.cs] at qw3 lw3
  have L3 := HLA.out.call2 p3
  have hd := RowD.step (D' := Dg w1 w1.heap.size w3) (w' := w3) fldOk (dgb_of HLA.out) (fun _ _ _ => rfl) hR
  obtain ⟨va, vc, rfl⟩ := hR.shape
  have T3 := L3.1.fin2 3 (.slice va ps.length vc)
  have hd3 := T3.2.row fldOk hd
  obtain ⟨b0, b1, b2, b3, b4, bf, bl⟩ := blk5 L3.1.h0
  have hx3 := HH.out.toAdd HP1.out T3.1 HLE.out
  have HADD := sAdd_any (t := ⟨3, nm, [], ps, []⟩) (an := none) (cn := 0) (af := va) (cf := vc) (ai := none) (ci := 0) _ hx3.1 (by have := HL.out; have := HLE.out; omega) ⟨HZ.out, _, _, _, rfl, .nil, (RowD.step fldOk hx3.2.2 (fun _ _ _ => rfl) hd3), .nil⟩
  dsimp only at HADD
  rw [show ((3 : Nat) : Int) = 3 from rfl] at HADD
  have HB1 := Lib.hid hx3.2.1
  clear p3 hx3 HC3 hd hd3 L3 T3 HLA hR
  go_wp2_with fail
  refine HADD.mono ?_
  rintro e w4 ⟨rfl, hst, hb4⟩
  have HX := Lib.hid hst
  have HB := Lib.hid (HB1.out.trans hb4)
  clear hst hb4 HADD
  go_wp2_with fail
  go_end0
  rw [HM.out]
  exact ⟨rfl, HX.out, HB.out⟩

end Go.Proofs.YtkahnlgedacppaaGreatDoor
/-
  sdl's parser: a union.
-/
namespace Go.Proofs.YtkahnlgedacppaaGreatDoor
open Go.RowKit Go.Maps

set_option maxHeartbeats 8000000 in
set_option maxRecDepth 100000 in
theorem sUnion_any {B : SdB} {b : Bool} {x : SchT} {s : Ms} {vt : Value} {ct : List Value} (W : World) (h : Sx B b x s vt ct W) (hl : x.types.length + 1 + s.l.length ≤ 8001) :
    Calls Tryz.prog 88 #[.pointer (some ⟨B.c.Q, 0, none⟩)] W (SxAns B b (addT x (uniM B.c.z s)) W) := by
  obtain ⟨q00, -, -, -, -, -, l00⟩ := blk5s h.blk
  have HC1 := pNm_any W h.p
  have HZ := Lib.hid (nmM_size h.p)
  have HLE := Lib.hid (uniM_fwd B.c.z s).le
  dsimp only [SdB.cs] at HC1 HZ
  have HH := Lib.hid h
  have HL := Lib.hid hl
  have HM := Lib.hid (show addT x (uniM B.c.z s) = (⟨x.qu, x.mu, x.types ++ [⟨4, (nmM B.c.z s).1, (nmsM B.c.z [124] (sgM B.c.z [61] (nmM B.c.z s).2)).1, [], []⟩]⟩, (nmsM B.c.z [124] (sgM B.c.z [61] (nmM B.c.z s).2)).2) from rfl)
  rw [show (uniM B.c.z s).2 = (nmsM B.c.z [124] (sgM B.c.z [61] (nmM B.c.z s).2)).2 from rfl] at HLE
  generalize nmM B.c.z s = R1 at *
  obtain ⟨nm, s1⟩ := R1
  dsimp only at HC1 HZ HM HLE
  clear h hl
  go_enter Tryz.func88, Tryz.ntmps88
  go_wp2_with fail
  refine HC1.mono ?_
  rintro e w1 ⟨rfl, p1⟩
  have L1 := Lb.new p1.1 45 #[.int .i64 4, .string ⟨nm.toArray⟩, .slice none 0 0, .slice none 0 0, .slice none 0 0]
  have qw1 := Pv.qs (c := B.cs x vt) p1.1
  have lw1 := p1.1.ltQ
  dsimp only [SdB.cs] at qw1 lw1
  have hQg : B.c.Q ≠ w1.heap.size := by omega
  have HP1 := Lib.hid p1
  have HC2 := pMust_any [61] _ L1.p.1
  dsimp only [SdB.cs] at HC2
  have HL1 := Lib.hid L1
  generalize sgM B.c.z [61] s1 = s2 at *
  clear L1 HC1 p1
  go_wp2_with fail
  refine HC2.mono ?_
  rintro e w2 ⟨rfl, p2⟩
  have qw2 := Pv.qs (c := B.cs x vt) p2.1
  have lw2 := p2.1.ltQ
  dsimp only [SdB.cs] at qw2 lw2
  have L2 := (HL1.out.call2 p2).1
  clear p2 HC2 HL1
  have HC3 := sNames_any (c := B.cs x vt) [124] _ L2.p.1
  dsimp only [SdB.cs] at HC3
  have HLA := Lib.hid L2
  generalize nmsM B.c.z [124] s2 = RP at *
  obtain ⟨ps, s4⟩ := RP
  dsimp only at HM HLE
  clear L2
  go_wp2_with fail
  refine HC3.mono ?_
  rintro e w3 ⟨v, rfl, hR, p3⟩
  dsimp only at hR p3
  have qw3 := Pv.qs (c := B.cs x vt) p3.1
  have lw3 := p3.1.ltQ
  dsimp only [SdB.cs] at qw3 lw3
  have L3 := HLA.out.call2 p3
  have hd := RowD.step (D' := Dg w1 w1.heap.size w3) (w' := w3) strOk (dgb_of HLA.out) (fun _ _ _ => rfl) hR
  obtain ⟨va, vc, rfl⟩ := hR.shape
  have T3 := L3.1.fin2 2 (.slice va ps.length vc)
  have hd3 := T3.2.row strOk hd
  obtain ⟨b0, b1, b2, b3, b4, bf, bl⟩ := blk5 L3.1.h0
  have hx3 := HH.out.toAdd HP1.out T3.1 HLE.out
  have HADD := sAdd_any (t := ⟨4, nm, ps, [], []⟩) (an := va) (cn := vc) (af := none) (cf := 0) (ai := none) (ci := 0) _ hx3.1 (by have := HL.out; have := HLE.out; omega) ⟨HZ.out, _, _, _, rfl, (RowD.step strOk hx3.2.2 (fun _ _ _ => rfl) hd3), .nil, .nil⟩
  dsimp only at HADD
  rw [show ((4 : Nat) : Int) = 4 from rfl] at HADD
  have HB1 := Lib.hid hx3.2.1
  clear p3 hx3 HC3 hd hd3 L3 T3 HLA hR
  go_wp2_with fail
  refine HADD.mono ?_
  rintro e w4 ⟨rfl, hst, hb4⟩
  have HX := Lib.hid hst
  have HB := Lib.hid (HB1.out.trans hb4)
  clear hst hb4 HADD
  go_wp2_with fail
  go_end0
  rw [HM.out]
  exact ⟨rfl, HX.out, HB.out⟩

end Go.Proofs.YtkahnlgedacppaaGreatDoor
