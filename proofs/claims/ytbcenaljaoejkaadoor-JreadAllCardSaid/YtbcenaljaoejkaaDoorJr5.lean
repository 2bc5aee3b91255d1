/-
  The state of jread's reader while it reads a list or an object: two rows of its own that grow, and what was read stays.
-/
import Derived.Test.YtbcenaljaoejkaaDoorJr4
import Derived.Test.YtbcenaljaoejkaaDoorCopy3
import Derived.OneCell
namespace Go.Proofs.YtbcenaljaoejkaaDoor
open Go.RowKit

def JD (w : World) (M : Nat) (W : World) (vN vL : Value) (b : Nat) : Prop := w.heap.size + 2 ≤ b ∧ b < W.heap.size ∧ vN.ownBlock ≠ some b ∧ vL.ownBlock ≠ some b ∧ b ≠ M
def RowsC (W : World) (D : Nat → Prop) (dd : Nat) (cs : List Value) (xs : List JV) : Prop :=
  ∀ i x, xs[i]? = some x → ∃ c0 c1 c2 c3, cs[i * 4]? = some c0 ∧ cs[i * 4 + 1]? = some c1 ∧ cs[i * 4 + 2]? = some c2 ∧ cs[i * 4 + 3]? = some c3 ∧ RdD W D dd x (.agg #[c0, c1, c2, c3])
theorem RowsC.step {w w' : World} {D D' : Nat → Prop} {dd : Nat} {cs : List Value} {xs : List JV} (h : RowsC w D dd cs xs) (hD : ∀ b, D b → D' b) (hk : ∀ b o, D b → w'.cell? ⟨b, o, none⟩ = w.cell? ⟨b, o, none⟩) : RowsC w' D' dd cs xs := fun i x hx => by
  obtain ⟨c0, c1, c2, c3, h0, h1, h2, h3, hR⟩ := h i x hx
  exact ⟨c0, c1, c2, c3, h0, h1, h2, h3, RdD.step hD hk hR⟩

/-- The box of the result lies in block w.heap.size, that of the value in the next one; the map of the names (or the reader, where there is none) in block M. -/
structure JSt (w : World) (R M : Nat) (kk : Int) (dd : Nat) (ns : List ByteArray) (xs : List JV) (cs : List Value) (vN vL : Value) (W : World) : Prop where
  aw : Aw R w.heap.size w W
  sz : w.heap.size + 2 ≤ W.heap.size
  b0 : W.cell? ⟨w.heap.size + 1, 0, none⟩ = some (.int .i64 kk)
  b1 : W.cell? ⟨w.heap.size + 1, 1, none⟩ = some (.string ⟨#[]⟩)
  b2 : W.cell? ⟨w.heap.size + 1, 2, none⟩ = some vN
  b3 : W.cell? ⟨w.heap.size + 1, 3, none⟩ = some vL
  bf : ∀ j, W.frozen? ⟨w.heap.size + 1, j, none⟩ = false
  bx : Bx W w.heap.size
  oN : W.ownsRow (w.heap.size + 2) 9 1 vN ns.length (ns.map Value.string)
  oL : W.ownsRow (w.heap.size + 2) 26 4 vL xs.length cs
  ne : ∀ g, vN.ownBlock = some g → vL.ownBlock ≠ some g
  rd : RowsC W (JD w M W vN vL) dd cs xs
  mM : M = R ∨ w.heap.size + 2 ≤ M
  mN : vN.ownBlock ≠ some M
  mL : vL.ownBlock ≠ some M

theorem ownsRow_block {w w' : World} {base : Nat} {e : TypeId} {size : Nat} {v : Value} {n : Nat} {xs : List Value} (h : w.ownsRow base e size v n xs) (hb : ∀ g, v.ownBlock = some g → w'.heap[g]? = w.heap[g]?) : w'.ownsRow base e size v n xs := by
  refine ⟨h.1, ?_⟩
  rcases h.2 with h0 | ⟨g, cap, cur, hv, hbs, hg, r⟩
  · exact .inl h0
  · refine .inr ⟨g, cap, cur, hv, hbs, ?_, r⟩
    rw [hb g (by rw [hv]; rfl)]
    exact hg

/-- Nothing older has changed but the reader and the map. -/
theorem JSt.grow {w W W' : World} {R M : Nat} {kk : Int} {dd : Nat} {ns : List ByteArray} {xs : List JV} {cs : List Value} {vN vL : Value} (h : JSt w R M kk dd ns xs cs vN vL W) (hR : R < w.heap.size) (hb : Aw2 R M W.heap.size W W') : JSt w R M kk dd ns xs cs vN vL W' := by
  have hs := h.sz
  have hz := hb.size
  have hm := h.mM
  have blk : ∀ b, b < W.heap.size → b ≠ R → b ≠ M → W'.heap[b]? = W.heap[b]? := hb.block
  have c : ∀ b o, b < W.heap.size → b ≠ R → b ≠ M → W'.cell? ⟨b, o, none⟩ = W.cell? ⟨b, o, none⟩ := fun b o hl h1 h2 => World.cell?_of_block (a := ⟨b, o, none⟩) (blk b hl h1 h2)
  have c1 : ∀ o, W'.cell? ⟨w.heap.size + 1, o, none⟩ = W.cell? ⟨w.heap.size + 1, o, none⟩ := fun o => c _ _ (by omega) (by omega) (by omega)
  refine ⟨h.aw.trans ⟨hb.os, hb.tape, hb.output, hb.size, fun k hk hr => ?_⟩, by omega, (c1 0).trans h.b0, (c1 1).trans h.b1, (c1 2).trans h.b2, (c1 3).trans h.b3, fun j => (World.frozen?_of_block (a := ⟨w.heap.size + 1, j, none⟩) (blk (w.heap.size + 1) (by omega) (by omega) (by omega))).trans (h.bf j),
    h.bx.keep (blk _ (by omega) (by omega) (by omega)), ownsRow_block h.oN (fun g e => ?_), ownsRow_block h.oL (fun g e => ?_), h.ne, h.rd.step (fun b hd => ⟨hd.1, by have := hd.2.1; omega, hd.2.2⟩) (fun b o hd => c b o hd.2.1 (by have := hd.1; omega) hd.2.2.2.2), h.mM, h.mN, h.mL⟩
  · by_cases hkM : k = M
    · rcases hm with e | e
      · exact absurd (hkM.trans e) hr
      · omega
    · exact blk k (by omega) hr hkM
  · have h1 := h.oN.lt g e
    exact blk g (by omega) (by omega) (fun e2 => h.mN (by rw [e, e2]))
  · have h1 := h.oL.lt g e
    exact blk g (by omega) (by omega) (fun e2 => h.mL (by rw [e, e2]))

/-- One more in the list. -/
theorem JSt.list {w W W' : World} {R M : Nat} {kk : Int} {dd : Nat} {ns : List ByteArray} {xs : List JV} {cs : List Value} {vN vL vL' : Value} {x : JV} {c0 c1 c2 c3 : Value} (h : JSt w R M kk dd ns xs cs vN vL W)
    (hx : RdD W (JD w M W vN vL) dd x (.agg #[c0, c1, c2, c3])) (hown : W'.ownsRow (w.heap.size + 2) 26 4 vL' (xs.length + 1) (cs ++ [c0, c1, c2, c3])) (hg : W.grownBy W' vL.ownBlock)
    (hlie : vL'.ownBlock = vL.ownBlock ∨ vL'.ownBlock = some W.heap.size) (hM : M < W.heap.size) : JSt w R M kk dd ns (xs ++ [x]) (cs ++ [c0, c1, c2, c3]) vN vL' (W'.setCell ⟨w.heap.size + 1, 3, none⟩ vL') := by
  have hs := h.sz
  have hz := hg.size
  have hLlt : ∀ g, vL.ownBlock = some g → w.heap.size + 2 ≤ g := fun g e => (h.oL.lt g e).1
  have hL'lt : ∀ g, vL'.ownBlock = some g → w.heap.size + 2 ≤ g := fun g e => (hown.lt g e).1
  have hNlt : ∀ g, vN.ownBlock = some g → w.heap.size + 2 ≤ g ∧ g < W.heap.size := fun g e => h.oN.lt g e
  have hblk : ∀ b, b < W.heap.size → vL.ownBlock ≠ some b → W'.heap[b]? = W.heap[b]? := fun b hb hn => hg.block b hb (by first | exact hn | exact fun e => hn e.symm)
  have hb : ∀ b o, b < W.heap.size → vL.ownBlock ≠ some b → b ≠ w.heap.size + 1 → (W'.setCell ⟨w.heap.size + 1, 3, none⟩ vL').cell? ⟨b, o, none⟩ = W.cell? ⟨b, o, none⟩ := fun b o hb hn hne => by
    rw [World.cell?_setCell_other _ _ _ _ (by intro e; have := congrArg Addr.block e; simp at this; omega)]
    exact World.cell?_of_block (a := ⟨b, o, none⟩) (hblk b hb hn)
  have hbox : ∀ o, W'.cell? ⟨w.heap.size + 1, o, none⟩ = W.cell? ⟨w.heap.size + 1, o, none⟩ := fun o => World.cell?_of_block (a := ⟨w.heap.size + 1, o, none⟩) (hblk (w.heap.size + 1) (by omega) (fun e => by have := hLlt _ e; omega))
  have hbo : ∀ o, o ≠ 3 → (W'.setCell ⟨w.heap.size + 1, 3, none⟩ vL').cell? ⟨w.heap.size + 1, o, none⟩ = W.cell? ⟨w.heap.size + 1, o, none⟩ := fun o ho => by
    rw [World.cell?_setCell_other _ _ _ _ (by intro e; injection e with _ e; omega)]
    exact hbox o
  have hfz : ∀ b o, b < W.heap.size → vL.ownBlock ≠ some b → (W'.setCell ⟨w.heap.size + 1, 3, none⟩ vL').frozen? ⟨b, o, none⟩ = W.frozen? ⟨b, o, none⟩ := fun b o hb hn => by
    rw [World.frozen?_setCell]
    exact World.frozen?_of_block (a := ⟨b, o, none⟩) (hblk b hb hn)
  have hsz : (W'.setCell ⟨w.heap.size + 1, 3, none⟩ vL').heap.size = W'.heap.size := by simp [World.setCell]
  have hr : ∀ o, (W'.setCell ⟨w.heap.size + 1, 3, none⟩ vL').cell? ⟨w.heap.size, o, none⟩ = W.cell? ⟨w.heap.size, o, none⟩ := fun o => hb _ o (by omega) (fun e => by have := hLlt _ e; omega) (by omega)
  have hD : ∀ b, JD w M W vN vL b → JD w M (W'.setCell ⟨w.heap.size + 1, 3, none⟩ vL') vN vL' b := fun b hd => ⟨hd.1, by rw [hsz]; have := hd.2.1; omega, hd.2.2.1, (by
    rcases hlie with e | e
    · rw [e]; exact hd.2.2.2.1
    · rw [e]; intro e2; have := Option.some.inj e2; have := hd.2.1; omega), hd.2.2.2.2⟩
  have hk : ∀ b o, JD w M W vN vL b → (W'.setCell ⟨w.heap.size + 1, 3, none⟩ vL').cell? ⟨b, o, none⟩ = W.cell? ⟨b, o, none⟩ := fun b o hd => hb b o hd.2.1 hd.2.2.2.1 (by have := hd.1; omega)
  have hcl : cs.length = xs.length * 4 := h.oL.1
  refine ⟨?_, by rw [hsz]; omega, (hbo 0 (by decide)).trans h.b0, (hbo 1 (by decide)).trans h.b1, (hbo 2 (by decide)).trans h.b2, World.cell?_setCell_same _ _ _ ((hbox 3).trans h.b3), fun j => (hfz _ j (by omega) (fun e => by have := hLlt _ e; omega)).trans (h.bf j),
    ⟨(hr 0).trans h.bx.r0, (hr 1).trans h.bx.r1, (hr 2).trans h.bx.r2, (hr 3).trans h.bx.r3, fun j => (hfz _ j (by omega) (fun e => by have := hLlt _ e; omega)).trans (h.bx.rf j)⟩, ?_, ?_, ?_, ?_, h.mM, h.mN, ?_⟩
  · refine (h.aw.trans (c := W') ⟨hg.os, hg.tape, hg.output, by omega, fun k hk _ => hblk k (by omega) (fun e => by have := hLlt _ e; omega)⟩).setNew (q := ⟨w.heap.size + 1, 3, none⟩) (by show _ ≤ w.heap.size + 1; omega) _
  · refine ownsRow_setCell_other (h.oN.kept hg ?_) ?_ _
    · cases hv : vN.ownBlock with
      | none => exact .inl rfl
      | some g => exact .inr (fun e => h.ne g hv e.symm)
    · intro e; have h1 : w.heap.size + 2 ≤ w.heap.size + 1 ∧ _ := hNlt _ e; omega
  · rw [List.length_append, List.length_singleton]
    exact ownsRow_setCell_other hown (by intro e; have h1 : w.heap.size + 2 ≤ w.heap.size + 1 := hL'lt _ e; omega) _
  · intro g e
    rcases hlie with e2 | e2
    · rw [e2]; exact h.ne g e
    · rw [e2]; intro e3; have := Option.some.inj e3; have := hNlt _ e; omega
  · intro i y hy
    by_cases hi : i < xs.length
    · rw [List.getElem?_append_left hi] at hy
      obtain ⟨d0, d1, d2, d3, h0, h1, h2, h3, hR⟩ := h.rd i y hy
      exact ⟨d0, d1, d2, d3, by rw [List.getElem?_append_left (by omega)]; exact h0, by rw [List.getElem?_append_left (by omega)]; exact h1, by rw [List.getElem?_append_left (by omega)]; exact h2, by rw [List.getElem?_append_left (by omega)]; exact h3, RdD.step hD hk hR⟩
    · have hlt := (List.getElem?_eq_some_iff.1 hy).1
      rw [List.length_append, List.length_singleton] at hlt
      obtain rfl : i = xs.length := by omega
      rw [List.getElem?_append_right (Nat.le_refl _), Nat.sub_self] at hy
      simp at hy
      subst hy
      refine ⟨c0, c1, c2, c3, ?_, ?_, ?_, ?_, RdD.step hD hk hx⟩ <;> rw [List.getElem?_append_right (by omega), hcl]
      · simp
      · rw [Nat.add_sub_cancel_left]; rfl
      · rw [Nat.add_sub_cancel_left]; rfl
      · rw [Nat.add_sub_cancel_left]; rfl
  · rcases hlie with e | e
    · rw [e]; exact h.mL
    · rw [e]; intro e2; have := Option.some.inj e2; omega

/-- One more name. -/
theorem JSt.name {w W W' : World} {R M : Nat} {kk : Int} {dd : Nat} {ns : List ByteArray} {xs : List JV} {cs : List Value} {vN vL vN' : Value} {s : ByteArray} (h : JSt w R M kk dd ns xs cs vN vL W)
    (hown : W'.ownsRow (w.heap.size + 2) 9 1 vN' (ns.length + 1) (ns.map Value.string ++ [.string s])) (hg : W.grownBy W' vN.ownBlock)
    (hlie : vN'.ownBlock = vN.ownBlock ∨ vN'.ownBlock = some W.heap.size) (hM : M < W.heap.size) : JSt w R M kk dd (ns ++ [s]) xs cs vN' vL (W'.setCell ⟨w.heap.size + 1, 2, none⟩ vN') := by
  have hs := h.sz
  have hz := hg.size
  have hLlt : ∀ g, vN.ownBlock = some g → w.heap.size + 2 ≤ g := fun g e => (h.oN.lt g e).1
  have hL'lt : ∀ g, vN'.ownBlock = some g → w.heap.size + 2 ≤ g := fun g e => (hown.lt g e).1
  have hNlt : ∀ g, vL.ownBlock = some g → w.heap.size + 2 ≤ g ∧ g < W.heap.size := fun g e => h.oL.lt g e
  have hblk : ∀ b, b < W.heap.size → vN.ownBlock ≠ some b → W'.heap[b]? = W.heap[b]? := fun b hb hn => hg.block b hb (by first | exact hn | exact fun e => hn e.symm)
  have hb : ∀ b o, b < W.heap.size → vN.ownBlock ≠ some b → b ≠ w.heap.size + 1 → (W'.setCell ⟨w.heap.size + 1, 2, none⟩ vN').cell? ⟨b, o, none⟩ = W.cell? ⟨b, o, none⟩ := fun b o hb hn hne => by
    rw [World.cell?_setCell_other _ _ _ _ (by intro e; have := congrArg Addr.block e; simp at this; omega)]
    exact World.cell?_of_block (a := ⟨b, o, none⟩) (hblk b hb hn)
  have hbox : ∀ o, W'.cell? ⟨w.heap.size + 1, o, none⟩ = W.cell? ⟨w.heap.size + 1, o, none⟩ := fun o => World.cell?_of_block (a := ⟨w.heap.size + 1, o, none⟩) (hblk (w.heap.size + 1) (by omega) (fun e => by have := hLlt _ e; omega))
  have hbo : ∀ o, o ≠ 2 → (W'.setCell ⟨w.heap.size + 1, 2, none⟩ vN').cell? ⟨w.heap.size + 1, o, none⟩ = W.cell? ⟨w.heap.size + 1, o, none⟩ := fun o ho => by
    rw [World.cell?_setCell_other _ _ _ _ (by intro e; injection e with _ e; omega)]
    exact hbox o
  have hfz : ∀ b o, b < W.heap.size → vN.ownBlock ≠ some b → (W'.setCell ⟨w.heap.size + 1, 2, none⟩ vN').frozen? ⟨b, o, none⟩ = W.frozen? ⟨b, o, none⟩ := fun b o hb hn => by
    rw [World.frozen?_setCell]
    exact World.frozen?_of_block (a := ⟨b, o, none⟩) (hblk b hb hn)
  have hsz : (W'.setCell ⟨w.heap.size + 1, 2, none⟩ vN').heap.size = W'.heap.size := by simp [World.setCell]
  have hr : ∀ o, (W'.setCell ⟨w.heap.size + 1, 2, none⟩ vN').cell? ⟨w.heap.size, o, none⟩ = W.cell? ⟨w.heap.size, o, none⟩ := fun o => hb _ o (by omega) (fun e => by have := hLlt _ e; omega) (by omega)
  refine ⟨?_, by rw [hsz]; omega, (hbo 0 (by decide)).trans h.b0, (hbo 1 (by decide)).trans h.b1, World.cell?_setCell_same _ _ _ ((hbox 2).trans h.b2), (hbo 3 (by decide)).trans h.b3, fun j => (hfz _ j (by omega) (fun e => by have := hLlt _ e; omega)).trans (h.bf j),
    ⟨(hr 0).trans h.bx.r0, (hr 1).trans h.bx.r1, (hr 2).trans h.bx.r2, (hr 3).trans h.bx.r3, fun j => (hfz _ j (by omega) (fun e => by have := hLlt _ e; omega)).trans (h.bx.rf j)⟩, ?_, ?_, ?_, ?_, h.mM, ?_, h.mL⟩
  · refine (h.aw.trans (c := W') ⟨hg.os, hg.tape, hg.output, by omega, fun k hk _ => hblk k (by omega) (fun e => by have := hLlt _ e; omega)⟩).setNew (q := ⟨w.heap.size + 1, 2, none⟩) (by show _ ≤ w.heap.size + 1; omega) _
  · rw [List.length_append, List.length_singleton, List.map_append]
    exact ownsRow_setCell_other hown (by intro e; have h1 : w.heap.size + 2 ≤ w.heap.size + 1 := hL'lt _ e; omega) _
  · refine ownsRow_setCell_other (h.oL.kept hg ?_) ?_ _
    · cases hv : vL.ownBlock with
      | none => exact .inl rfl
      | some g => exact .inr (fun e => h.ne g e.symm hv)
    · intro e; have h1 : w.heap.size + 2 ≤ w.heap.size + 1 ∧ _ := hNlt _ e; omega
  · intro g e e2
    rcases hlie with e3 | e3
    · rw [e3] at e; exact h.ne g e e2
    · rw [e3] at e; have := Option.some.inj e; have := hNlt _ e2; omega
  · refine h.rd.step (fun b hd => ⟨hd.1, by rw [hsz]; have := hd.2.1; omega, ?_, hd.2.2.2⟩) (fun b o hd => hb b o hd.2.1 hd.2.2.1 (by have := hd.1; omega))
    rcases hlie with e | e
    · rw [e]; exact hd.2.2.1
    · rw [e]; intro e2; have := Option.some.inj e2; have := hd.2.1; omega
  · rcases hlie with e | e
    · rw [e]; exact h.mN
    · rw [e]; intro e2; have := Option.some.inj e2; omega

end Go.Proofs.YtbcenaljaoejkaaDoor
