/-
  A reader in a block of its own, and the two rows that a list or an object of values grows by: what is new, what stays.
-/
import Derived.Test.YtkahnlgedacppaaGreatDoorMCopy3
import Derived.OneCell
import Derived.BigQuiet
import Derived.Deep.LoopGhost
import Derived.Deep.Cut
import Derived.Deep.RegionWith
import Derived.Deep.QuietTactic
import Derived.Deep.RegionLaw
import Derived.Deep.AppendLies
namespace Go.Proofs.YtkahnlgedacppaaGreatDoor
open Go.RowKit

/-- Below block n nothing has changed but block R. -/
structure Aw (R n : Nat) (w w' : World) : Prop where
  os : w'.os = w.os
  tape : w'.tape = w.tape
  output : w'.output = w.output
  size : w.heap.size ≤ w'.heap.size
  block : ∀ k, k < n → k ≠ R → w'.heap[k]? = w.heap[k]?

theorem Aw.refl (R n : Nat) (w : World) : Aw R n w w := ⟨rfl, rfl, rfl, Nat.le_refl _, fun _ _ _ => rfl⟩
theorem Aw.trans {R n : Nat} {a b c : World} (h : Aw R n a b) (k : Aw R n b c) : Aw R n a c :=
  ⟨k.os.trans h.os, k.tape.trans h.tape, k.output.trans h.output, Nat.le_trans h.size k.size, fun i hi hr => (k.block i hi hr).trans (h.block i hi hr)⟩
theorem Aw.mono {R n m : Nat} {a b : World} (h : Aw R n a b) (hm : m ≤ n) : Aw R m a b := ⟨h.os, h.tape, h.output, h.size, fun i hi => h.block i (by omega)⟩
theorem Aw.of {R n : Nat} {a b : World} (h : Below n a b) : Aw R n a b := ⟨h.os, h.tape, h.output, h.size, fun i hi _ => h.block i hi⟩
theorem Aw.drew {R n : Nat} {a b : World} (h : Aw R n a b) : Aw R n a b.drew := ⟨h.os, h.tape, h.output, h.size, h.block⟩
theorem Aw.alloc {R n : Nat} {a b : World} (h : Aw R n a b) (hn : n ≤ b.heap.size) (o : Obj) : Aw R n a (b.alloc o) := h.trans (.of ((Below.refl n b).alloc hn o))
theorem Aw.set {R n j : Nat} {a b : World} (h : Aw R n a b) (v : Value) : Aw R n a (b.setCell ⟨R, j, none⟩ v) :=
  h.trans ⟨rfl, rfl, rfl, by simp [World.setCell], fun k _ hr => Below.heap_setCell _ _ _ _ hr⟩
theorem Aw.setNew {R n : Nat} {a b : World} (h : Aw R n a b) {q : Addr} (hq : n ≤ q.block) (v : Value) : Aw R n a (b.setCell q v) := h.trans (.of ((Below.refl n b).setCell hq v))
theorem Aw.cell {R n : Nat} {a b : World} (h : Aw R n a b) {k o : Nat} (hk : k < n) (hr : k ≠ R) : b.cell? ⟨k, o, none⟩ = a.cell? ⟨k, o, none⟩ := World.cell?_of_block (a := ⟨k, o, none⟩) (h.block k hk hr)
theorem Aw.frozen {R n : Nat} {a b : World} (h : Aw R n a b) {k o : Nat} (hk : k < n) (hr : k ≠ R) : b.frozen? ⟨k, o, none⟩ = a.frozen? ⟨k, o, none⟩ := World.frozen?_of_block (a := ⟨k, o, none⟩) (h.block k hk hr)
theorem Aw.below {R n : Nat} {a b : World} (h : Aw R n a b) (hn : n ≤ R) : Below n a b := ⟨h.os, h.tape, h.output, h.size, fun k hk => h.block k hk (by omega)⟩

theorem Aw.drewN {R n : Nat} {a b : World} (h : Aw R n a b) (m : Nat) : Aw R n a (b.drewN m) := ⟨h.os, h.tape, h.output, h.size, h.block⟩
/-- The box of a result, as it is laid. -/
structure Bx (W : World) (B : Nat) : Prop where
  r0 : W.cell? ⟨B, 0, none⟩ = some (.int .i64 0)
  r1 : W.cell? ⟨B, 1, none⟩ = some (.string ⟨#[]⟩)
  r2 : W.cell? ⟨B, 2, none⟩ = some (.slice none 0 0)
  r3 : W.cell? ⟨B, 3, none⟩ = some (.slice none 0 0)
  rf : ∀ j, W.frozen? ⟨B, j, none⟩ = false
theorem Bx.new (w : World) : Bx (w.alloc (.cells #[.int .i64 0, .string ⟨#[]⟩, .slice none 0 0, .slice none 0 0] 52)) w.heap.size := by
  have hb : (w.alloc (.cells #[.int .i64 0, .string ⟨#[]⟩, .slice none 0 0, .slice none 0 0] 52)).heap[w.heap.size]? = some (.cells #[.int .i64 0, .string ⟨#[]⟩, .slice none 0 0, .slice none 0 0] 52 (0, 0)) := heap_alloc_new _ _
  exact ⟨Lib.cell_of_heap hb 0, Lib.cell_of_heap hb 1, Lib.cell_of_heap hb 2, Lib.cell_of_heap hb 3, fun j => by go_simp⟩
theorem Bx.keep {W W' : World} {B : Nat} (h : Bx W B) (hb : W'.heap[B]? = W.heap[B]?) : Bx W' B := by
  have c : ∀ o, W'.cell? ⟨B, o, none⟩ = W.cell? ⟨B, o, none⟩ := fun o => World.cell?_of_block (a := ⟨B, o, none⟩) hb
  exact ⟨(c 0).trans h.r0, (c 1).trans h.r1, (c 2).trans h.r2, (c 3).trans h.r3, fun j => (World.frozen?_of_block (a := ⟨B, j, none⟩) hb).trans (h.rf j)⟩
theorem Bx.lt {W : World} {B : Nat} (h : Bx W B) : B < W.heap.size := by
  have h0 := h.r0
  unfold World.cell? at h0
  by_cases hl : B < W.heap.size
  · exact hl
  · simp only [Array.getElem?_eq_none (show W.heap.size ≤ B by omega)] at h0
    cases h0
theorem Aw.four {R n B : Nat} {a W : World} (h : Aw R n a W) (hB : n ≤ B) (c0 c1 c2 c3 : Value) : Aw R n a ((((W.setCell ⟨B, 0, none⟩ c0).setCell ⟨B, 1, none⟩ c1).setCell ⟨B, 2, none⟩ c2).setCell ⟨B, 3, none⟩ c3) :=
  (((h.setNew (q := ⟨B, 0, none⟩) hB c0).setNew (q := ⟨B, 1, none⟩) hB c1).setNew (q := ⟨B, 2, none⟩) hB c2).setNew (q := ⟨B, 3, none⟩) hB c3
theorem heap_four (W : World) (B : Nat) (c0 c1 c2 c3 : Value) (k : Nat) (h : k ≠ B) : ((((W.setCell ⟨B, 0, none⟩ c0).setCell ⟨B, 1, none⟩ c1).setCell ⟨B, 2, none⟩ c2).setCell ⟨B, 3, none⟩ c3).heap[k]? = W.heap[k]? := by
  rw [Below.heap_setCell _ _ _ _ h, Below.heap_setCell _ _ _ _ h, Below.heap_setCell _ _ _ _ h, Below.heap_setCell _ _ _ _ h]
theorem size_four (W : World) (B : Nat) (c0 c1 c2 c3 : Value) : ((((W.setCell ⟨B, 0, none⟩ c0).setCell ⟨B, 1, none⟩ c1).setCell ⟨B, 2, none⟩ c2).setCell ⟨B, 3, none⟩ c3).heap.size = W.heap.size := by simp [World.setCell]
def leaf (k : Int) (s : ByteArray) : Value := .agg #[.int .i64 k, .string s, .slice none 0 0, .slice none 0 0]

/-- Below block n nothing has changed but blocks R and M. -/
structure Aw2 (R M n : Nat) (w w' : World) : Prop where
  os : w'.os = w.os
  tape : w'.tape = w.tape
  output : w'.output = w.output
  size : w.heap.size ≤ w'.heap.size
  block : ∀ k, k < n → k ≠ R → k ≠ M → w'.heap[k]? = w.heap[k]?

theorem Aw2.of {R M n : Nat} {w W w3 : World} (ha : Aw R n w W) (hn : n ≤ W.heap.size) (hg : W.grownBy w3 (some M)) : Aw2 R M n w w3 :=
  ⟨hg.os.trans ha.os, hg.tape.trans ha.tape, hg.output.trans ha.output, Nat.le_trans ha.size hg.size, fun k hk hr hm => (hg.block k (by omega) (fun e => hm (by injection e))).trans (ha.block k hk hr)⟩

def JD (w : World) (M : Nat) (W : World) (vN vL : Value) (b : Nat) : Prop := w.heap.size + 2 ≤ b ∧ b < W.heap.size ∧ vN.ownBlock ≠ some b ∧ vL.ownBlock ≠ some b ∧ b ≠ M
def RowsC (W : World) (D : Nat → Prop) (dd : Nat) (cs : List Value) (xs : List JV) : Prop :=
  ∀ i x, xs[i]? = some x → ∃ c0 c1 c2 c3, cs[i * 4]? = some c0 ∧ cs[i * 4 + 1]? = some c1 ∧ cs[i * 4 + 2]? = some c2 ∧ cs[i * 4 + 3]? = some c3 ∧ RdD W D dd x (.agg #[c0, c1, c2, c3])
theorem RowsC.step {w w' : World} {D D' : Nat → Prop} {dd : Nat} {cs : List Value} {xs : List JV} (h : RowsC w D dd cs xs) (hD : ∀ b, D b → D' b) (hk : ∀ b o, D b → w'.cell? ⟨b, o, none⟩ = w.cell? ⟨b, o, none⟩) : RowsC w' D' dd cs xs := fun i x hx => by
  obtain ⟨c0, c1, c2, c3, h0, h1, h2, h3, hR⟩ := h i x hx
  exact ⟨c0, c1, c2, c3, h0, h1, h2, h3, RdD.step hD hk hR⟩

/-- The box of the result lies in block w.heap.size, that of the value in the next one; the map of the names (or the reader, where there is none) in block M. -/
structure JSt (w : World) (R M : Nat) (kk : Int) (dd : Nat) (ns : List ByteArray) (xs : List JV) (cs : List Value) (vN vL : Value) (W : World) : Prop where
  aw : Aw R w.heap.size w W
  sz : w.heap.size + 2 ≤ W.heap.size
  b0 : W.cell? ⟨w.heap.size + 1, 0, none⟩ = some (.int .i64 kk)
  b1 : W.cell? ⟨w.heap.size + 1, 1, none⟩ = some (.string ⟨#[]⟩)
  b2 : W.cell? ⟨w.heap.size + 1, 2, none⟩ = some vN
  b3 : W.cell? ⟨w.heap.size + 1, 3, none⟩ = some vL
  bf : ∀ j, W.frozen? ⟨w.heap.size + 1, j, none⟩ = false
  bx : Bx W w.heap.size
  oN : W.ownsRow (w.heap.size + 2) 9 1 vN ns.length (ns.map Value.string)
  oL : W.ownsRow (w.heap.size + 2) 52 4 vL xs.length cs
  ne : ∀ g, vN.ownBlock = some g → vL.ownBlock ≠ some g
  rd : RowsC W (JD w M W vN vL) dd cs xs
  mM : M = R ∨ w.heap.size + 2 ≤ M
  mN : vN.ownBlock ≠ some M
  mL : vL.ownBlock ≠ some M

theorem ownsRow_block {w w' : World} {base : Nat} {e : TypeId} {size : Nat} {v : Value} {n : Nat} {xs : List Value} (h : w.ownsRow base e size v n xs) (hb : ∀ g, v.ownBlock = some g → w'.heap[g]? = w.heap[g]?) : w'.ownsRow base e size v n xs := by
  refine ⟨h.1, ?_⟩
  rcases h.2 with h0 | ⟨g, cap, cur, hv, hbs, hg, r⟩
  · exact .inl h0
  · refine .inr ⟨g, cap, cur, hv, hbs, ?_, r⟩
    rw [hb g (by rw [hv]; rfl)]
    exact hg

/-- Nothing older has changed but the reader and the map. -/
theorem JSt.grow {w W W' : World} {R M : Nat} {kk : Int} {dd : Nat} {ns : List ByteArray} {xs : List JV} {cs : List Value} {vN vL : Value} (h : JSt w R M kk dd ns xs cs vN vL W) (hR : R < w.heap.size) (hb : Aw2 R M W.heap.size W W') : JSt w R M kk dd ns xs cs vN vL W' := by
  have hs := h.sz
  have hz := hb.size
  have hm := h.mM
  have blk : ∀ b, b < W.heap.size → b ≠ R → b ≠ M → W'.heap[b]? = W.heap[b]? := hb.block
  have c : ∀ b o, b < W.heap.size → b ≠ R → b ≠ M → W'.cell? ⟨b, o, none⟩ = W.cell? ⟨b, o, none⟩ := fun b o hl h1 h2 => World.cell?_of_block (a := ⟨b, o, none⟩) (blk b hl h1 h2)
  have c1 : ∀ o, W'.cell? ⟨w.heap.size + 1, o, none⟩ = W.cell? ⟨w.heap.size + 1, o, none⟩ := fun o => c _ _ (by omega) (by omega) (by omega)
  refine ⟨h.aw.trans ⟨hb.os, hb.tape, hb.output, hb.size, fun k hk hr => ?_⟩, by omega, (c1 0).trans h.b0, (c1 1).trans h.b1, (c1 2).trans h.b2, (c1 3).trans h.b3, fun j => (World.frozen?_of_block (a := ⟨w.heap.size + 1, j, none⟩) (blk (w.heap.size + 1) (by omega) (by omega) (by omega))).trans (h.bf j),
    h.bx.keep (blk _ (by omega) (by omega) (by omega)), ownsRow_block h.oN (fun g e => ?_), ownsRow_block h.oL (fun g e => ?_), h.ne, h.rd.step (fun b hd => ⟨hd.1, by have := hd.2.1; omega, hd.2.2⟩) (fun b o hd => c b o hd.2.1 (by have := hd.1; omega) hd.2.2.2.2), h.mM, h.mN, h.mL⟩
  · by_cases hkM : k = M
    · rcases hm with e | e
      · exact absurd (hkM.trans e) hr
      · omega
    · exact blk k (by omega) hr hkM
  · have h1 := h.oN.lt g e
    exact blk g (by omega) (by omega) (fun e2 => h.mN (by rw [e, e2]))
  · have h1 := h.oL.lt g e
    exact blk g (by omega) (by omega) (fun e2 => h.mL (by rw [e, e2]))

/-- One more in the list. -/
theorem JSt.list {w W W' : World} {R M : Nat} {kk : Int} {dd : Nat} {ns : List ByteArray} {xs : List JV} {cs : List Value} {vN vL vL' : Value} {x : JV} {c0 c1 c2 c3 : Value} (h : JSt w R M kk dd ns xs cs vN vL W)
    (hx : RdD W (JD w M W vN vL) dd x (.agg #[c0, c1, c2, c3])) (hown : W'.ownsRow (w.heap.size + 2) 52 4 vL' (xs.length + 1) (cs ++ [c0, c1, c2, c3])) (hg : W.grownBy W' vL.ownBlock)
    (hlie : vL'.ownBlock = vL.ownBlock ∨ vL'.ownBlock = some W.heap.size) (hM : M < W.heap.size) : JSt w R M kk dd ns (xs ++ [x]) (cs ++ [c0, c1, c2, c3]) vN vL' (W'.setCell ⟨w.heap.size + 1, 3, none⟩ vL') := by
  have hs := h.sz
  have hz := hg.size
  have hLlt : ∀ g, vL.ownBlock = some g → w.heap.size + 2 ≤ g := fun g e => (h.oL.lt g e).1
  have hL'lt : ∀ g, vL'.ownBlock = some g → w.heap.size + 2 ≤ g := fun g e => (hown.lt g e).1
  have hNlt : ∀ g, vN.ownBlock = some g → w.heap.size + 2 ≤ g ∧ g < W.heap.size := fun g e => h.oN.lt g e
  have hblk : ∀ b, b < W.heap.size → vL.ownBlock ≠ some b → W'.heap[b]? = W.heap[b]? := fun b hb hn => hg.block b hb (by first | exact hn | exact fun e => hn e.symm)
  have hb : ∀ b o, b < W.heap.size → vL.ownBlock ≠ some b → b ≠ w.heap.size + 1 → (W'.setCell ⟨w.heap.size + 1, 3, none⟩ vL').cell? ⟨b, o, none⟩ = W.cell? ⟨b, o, none⟩ := fun b o hb hn hne => by
    rw [World.cell?_setCell_other _ _ _ _ (by intro e; have := congrArg Addr.block e; simp at this; omega)]
    exact World.cell?_of_block (a := ⟨b, o, none⟩) (hblk b hb hn)
  have hbox : ∀ o, W'.cell? ⟨w.heap.size + 1, o, none⟩ = W.cell? ⟨w.heap.size + 1, o, none⟩ := fun o => World.cell?_of_block (a := ⟨w.heap.size + 1, o, none⟩) (hblk (w.heap.size + 1) (by omega) (fun e => by have := hLlt _ e; omega))
  have hbo : ∀ o, o ≠ 3 → (W'.setCell ⟨w.heap.size + 1, 3, none⟩ vL').cell? ⟨w.heap.size + 1, o, none⟩ = W.cell? ⟨w.heap.size + 1, o, none⟩ := fun o ho => by
    rw [World.cell?_setCell_other _ _ _ _ (by intro e; injection e with _ e; omega)]
    exact hbox o
  have hfz : ∀ b o, b < W.heap.size → vL.ownBlock ≠ some b → (W'.setCell ⟨w.heap.size + 1, 3, none⟩ vL').frozen? ⟨b, o, none⟩ = W.frozen? ⟨b, o, none⟩ := fun b o hb hn => by
    rw [World.frozen?_setCell]
    exact World.frozen?_of_block (a := ⟨b, o, none⟩) (hblk b hb hn)
  have hsz : (W'.setCell ⟨w.heap.size + 1, 3, none⟩ vL').heap.size = W'.heap.size := by simp [World.setCell]
  have hr : ∀ o, (W'.setCell ⟨w.heap.size + 1, 3, none⟩ vL').cell? ⟨w.heap.size, o, none⟩ = W.cell? ⟨w.heap.size, o, none⟩ := fun o => hb _ o (by omega) (fun e => by have := hLlt _ e; omega) (by omega)
  have hD : ∀ b, JD w M W vN vL b → JD w M (W'.setCell ⟨w.heap.size + 1, 3, none⟩ vL') vN vL' b := fun b hd => ⟨hd.1, by rw [hsz]; have := hd.2.1; omega, hd.2.2.1, (by
    rcases hlie with e | e
    · rw [e]; exact hd.2.2.2.1
    · rw [e]; intro e2; have := Option.some.inj e2; have := hd.2.1; omega), hd.2.2.2.2⟩
  have hk : ∀ b o, JD w M W vN vL b → (W'.setCell ⟨w.heap.size + 1, 3, none⟩ vL').cell? ⟨b, o, none⟩ = W.cell? ⟨b, o, none⟩ := fun b o hd => hb b o hd.2.1 hd.2.2.2.1 (by have := hd.1; omega)
  have hcl : cs.length = xs.length * 4 := h.oL.1
  refine ⟨?_, by rw [hsz]; omega, (hbo 0 (by decide)).trans h.b0, (hbo 1 (by decide)).trans h.b1, (hbo 2 (by decide)).trans h.b2, World.cell?_setCell_same _ _ _ ((hbox 3).trans h.b3), fun j => (hfz _ j (by omega) (fun e => by have := hLlt _ e; omega)).trans (h.bf j),
    ⟨(hr 0).trans h.bx.r0, (hr 1).trans h.bx.r1, (hr 2).trans h.bx.r2, (hr 3).trans h.bx.r3, fun j => (hfz _ j (by omega) (fun e => by have := hLlt _ e; omega)).trans (h.bx.rf j)⟩, ?_, ?_, ?_, ?_, h.mM, h.mN, ?_⟩
  · refine (h.aw.trans (c := W') ⟨hg.os, hg.tape, hg.output, by omega, fun k hk _ => hblk k (by omega) (fun e => by have := hLlt _ e; omega)⟩).setNew (q := ⟨w.heap.size + 1, 3, none⟩) (by show _ ≤ w.heap.size + 1; omega) _
  · refine ownsRow_setCell_other (h.oN.kept hg ?_) ?_ _
    · cases hv : vN.ownBlock with
      | none => exact .inl rfl
      | some g => exact .inr (fun e => h.ne g hv e.symm)
    · intro e; have h1 : w.heap.size + 2 ≤ w.heap.size + 1 ∧ _ := hNlt _ e; omega
  · rw [List.length_append, List.length_singleton]
    exact ownsRow_setCell_other hown (by intro e; have h1 : w.heap.size + 2 ≤ w.heap.size + 1 := hL'lt _ e; omega) _
  · intro g e
    rcases hlie with e2 | e2
    · rw [e2]; exact h.ne g e
    · rw [e2]; intro e3; have := Option.some.inj e3; have := hNlt _ e; omega
  · intro i y hy
    by_cases hi : i < xs.length
    · rw [List.getElem?_append_left hi] at hy
      obtain ⟨d0, d1, d2, d3, h0, h1, h2, h3, hR⟩ := h.rd i y hy
      exact ⟨d0, d1, d2, d3, by rw [List.getElem?_append_left (by omega)]; exact h0, by rw [List.getElem?_append_left (by omega)]; exact h1, by rw [List.getElem?_append_left (by omega)]; exact h2, by rw [List.getElem?_append_left (by omega)]; exact h3, RdD.step hD hk hR⟩
    · have hlt := (List.getElem?_eq_some_iff.1 hy).1
      rw [List.length_append, List.length_singleton] at hlt
      obtain rfl : i = xs.length := by omega
      rw [List.getElem?_append_right (Nat.le_refl _), Nat.sub_self] at hy
      simp at hy
      subst hy
      refine ⟨c0, c1, c2, c3, ?_, ?_, ?_, ?_, RdD.step hD hk hx⟩ <;> rw [List.getElem?_append_right (by omega), hcl]
      · simp
      · rw [Nat.add_sub_cancel_left]; rfl
      · rw [Nat.add_sub_cancel_left]; rfl
      · rw [Nat.add_sub_cancel_left]; rfl
  · rcases hlie with e | e
    · rw [e]; exact h.mL
    · rw [e]; intro e2; have := Option.some.inj e2; omega

/-- One more name. -/
theorem JSt.name {w W W' : World} {R M : Nat} {kk : Int} {dd : Nat} {ns : List ByteArray} {xs : List JV} {cs : List Value} {vN vL vN' : Value} {s : ByteArray} (h : JSt w R M kk dd ns xs cs vN vL W)
    (hown : W'.ownsRow (w.heap.size + 2) 9 1 vN' (ns.length + 1) (ns.map Value.string ++ [.string s])) (hg : W.grownBy W' vN.ownBlock)
    (hlie : vN'.ownBlock = vN.ownBlock ∨ vN'.ownBlock = some W.heap.size) (hM : M < W.heap.size) : JSt w R M kk dd (ns ++ [s]) xs cs vN' vL (W'.setCell ⟨w.heap.size + 1, 2, none⟩ vN') := by
  have hs := h.sz
  have hz := hg.size
  have hLlt : ∀ g, vN.ownBlock = some g → w.heap.size + 2 ≤ g := fun g e => (h.oN.lt g e).1
  have hL'lt : ∀ g, vN'.ownBlock = some g → w.heap.size + 2 ≤ g := fun g e => (hown.lt g e).1
  have hNlt : ∀ g, vL.ownBlock = some g → w.heap.size + 2 ≤ g ∧ g < W.heap.size := fun g e => h.oL.lt g e
  have hblk : ∀ b, b < W.heap.size → vN.ownBlock ≠ some b → W'.heap[b]? = W.heap[b]? := fun b hb hn => hg.block b hb (by first | exact hn | exact fun e => hn e.symm)
  have hb : ∀ b o, b < W.heap.size → vN.ownBlock ≠ some b → b ≠ w.heap.size + 1 → (W'.setCell ⟨w.heap.size + 1, 2, none⟩ vN').cell? ⟨b, o, none⟩ = W.cell? ⟨b, o, none⟩ := fun b o hb hn hne => by
    rw [World.cell?_setCell_other _ _ _ _ (by intro e; have := congrArg Addr.block e; simp at this; omega)]
    exact World.cell?_of_block (a := ⟨b, o, none⟩) (hblk b hb hn)
  have hbox : ∀ o, W'.cell? ⟨w.heap.size + 1, o, none⟩ = W.cell? ⟨w.heap.size + 1, o, none⟩ := fun o => World.cell?_of_block (a := ⟨w.heap.size + 1, o, none⟩) (hblk (w.heap.size + 1) (by omega) (fun e => by have := hLlt _ e; omega))
  have hbo : ∀ o, o ≠ 2 → (W'.setCell ⟨w.heap.size + 1, 2, none⟩ vN').cell? ⟨w.heap.size + 1, o, none⟩ = W.cell? ⟨w.heap.size + 1, o, none⟩ := fun o ho => by
    rw [World.cell?_setCell_other _ _ _ _ (by intro e; injection e with _ e; omega)]
    exact hbox o
  have hfz : ∀ b o, b < W.heap.size → vN.ownBlock ≠ some b → (W'.setCell ⟨w.heap.size + 1, 2, none⟩ vN').frozen? ⟨b, o, none⟩ = W.frozen? ⟨b, o, none⟩ := fun b o hb hn => by
    rw [World.frozen?_setCell]
    exact World.frozen?_of_block (a := ⟨b, o, none⟩) (hblk b hb hn)
  have hsz : (W'.setCell ⟨w.heap.size + 1, 2, none⟩ vN').heap.size = W'.heap.size := by simp [World.setCell]
  have hr : ∀ o, (W'.setCell ⟨w.heap.size + 1, 2, none⟩ vN').cell? ⟨w.heap.size, o, none⟩ = W.cell? ⟨w.heap.size, o, none⟩ := fun o => hb _ o (by omega) (fun e => by have := hLlt _ e; omega) (by omega)
  refine ⟨?_, by rw [hsz]; omega, (hbo 0 (by decide)).trans h.b0, (hbo 1 (by decide)).trans h.b1, World.cell?_setCell_same _ _ _ ((hbox 2).trans h.b2), (hbo 3 (by decide)).trans h.b3, fun j => (hfz _ j (by omega) (fun e => by have := hLlt _ e; omega)).trans (h.bf j),
    ⟨(hr 0).trans h.bx.r0, (hr 1).trans h.bx.r1, (hr 2).trans h.bx.r2, (hr 3).trans h.bx.r3, fun j => (hfz _ j (by omega) (fun e => by have := hLlt _ e; omega)).trans (h.bx.rf j)⟩, ?_, ?_, ?_, ?_, h.mM, ?_, h.mL⟩
  · refine (h.aw.trans (c := W') ⟨hg.os, hg.tape, hg.output, by omega, fun k hk _ => hblk k (by omega) (fun e => by have := hLlt _ e; omega)⟩).setNew (q := ⟨w.heap.size + 1, 2, none⟩) (by show _ ≤ w.heap.size + 1; omega) _
  · rw [List.length_append, List.length_singleton, List.map_append]
    exact ownsRow_setCell_other hown (by intro e; have h1 : w.heap.size + 2 ≤ w.heap.size + 1 := hL'lt _ e; omega) _
  · refine ownsRow_setCell_other (h.oL.kept hg ?_) ?_ _
    · cases hv : vL.ownBlock with
      | none => exact .inl rfl
      | some g => exact .inr (fun e => h.ne g e.symm hv)
    · intro e; have h1 : w.heap.size + 2 ≤ w.heap.size + 1 ∧ _ := hNlt _ e; omega
  · intro g e e2
    rcases hlie with e3 | e3
    · rw [e3] at e; exact h.ne g e e2
    · rw [e3] at e; have := Option.some.inj e; have := hNlt _ e2; omega
  · refine h.rd.step (fun b hd => ⟨hd.1, by rw [hsz]; have := hd.2.1; omega, ?_, hd.2.2.2⟩) (fun b o hd => hb b o hd.2.1 hd.2.2.1 (by have := hd.1; omega))
    rcases hlie with e | e
    · rw [e]; exact hd.2.2.1
    · rw [e]; intro e2; have := Option.some.inj e2; have := hd.2.1; omega
  · rcases hlie with e | e
    · rw [e]; exact h.mN
    · rw [e]; intro e2; have := Option.some.inj e2; omega

theorem Aw2.ofAw {R n : Nat} {w w' : World} (h : Aw R n w w') (M : Nat) : Aw2 R M n w w' := ⟨h.os, h.tape, h.output, h.size, fun k hk hr _ => h.block k hk hr⟩
theorem Aw2.drew {R M n : Nat} {w w' : World} (h : Aw2 R M n w w') : Aw2 R M n w w'.drew := ⟨h.os, h.tape, h.output, h.size, h.block⟩

theorem cell_four_new (w : World) (c0 c1 c2 c3 : Value) (t : TypeId) : ∀ j u, [c0, c1, c2, c3][j]? = some u → (w.alloc (.cells #[c0, c1, c2, c3] t)).cell? ((⟨w.heap.size, 0, none⟩ : Addr).add j) = some u := by
  intro j u hj
  rw [Go.WideShapes.add_plain, Nat.zero_add]
  have hb : (w.alloc (.cells #[c0, c1, c2, c3] t)).heap[w.heap.size]? = some (.cells #[c0, c1, c2, c3] t (0, 0)) := heap_alloc_new _ _
  rw [Lib.cell_of_heap hb j]
  rw [← hj, ← Array.getElem?_toList]
theorem four_one (k : Int) (s : ByteArray) (an : Option Addr) (n cn : Nat) (ap : Option Addr) (m cp : Nat) : ∀ u ∈ [Value.int .i64 k, .string s, .slice an n cn, .slice ap m cp], u.oneCell' = true := by
  intro u hu
  simp at hu
  rcases hu with rfl | rfl | rfl | rfl <;> rfl

theorem jst_init (w W : World) (R M : Nat) (kk : Int) (dd : Nat) (hR : R < w.heap.size) (hM : M = R ∨ w.heap.size + 2 ≤ M) (ha : Aw R (w.heap.size + 2) ((w.alloc (.cells #[.int .i64 0, .string ⟨#[]⟩, .slice none 0 0, .slice none 0 0] 52)).alloc (.cells #[.int .i64 kk, .string ⟨#[]⟩, .slice none 0 0, .slice none 0 0] 52)) W) :
    JSt w R M kk dd [] [] [] (.slice none 0 0) (.slice none 0 0) W := by
  obtain ⟨W0, hW⟩ : ∃ W0, W0 = ((w.alloc (.cells #[.int .i64 0, .string ⟨#[]⟩, .slice none 0 0, .slice none 0 0] 52)).alloc (.cells #[.int .i64 kk, .string ⟨#[]⟩, .slice none 0 0, .slice none 0 0] 52)) := ⟨_, rfl⟩
  rw [← hW] at ha
  have hb : Below w.heap.size w W0 := by
    rw [hW]
    exact ((Below.refl _ w).alloc (Nat.le_refl _) _).alloc (by simp) _
  have hs : W0.heap.size = w.heap.size + 2 := by rw [hW]; simp
  have c1 : ∀ j, W.cell? ⟨w.heap.size + 1, j, none⟩ = (#[Value.int .i64 kk, .string ⟨#[]⟩, .slice none 0 0, .slice none 0 0] : Array Value)[j]? := fun j => by
    rw [ha.cell (by omega) (by omega), hW]; go_simp
  have f1 : ∀ j, W.frozen? ⟨w.heap.size + 1, j, none⟩ = false := fun j => by
    rw [ha.frozen (by omega) (by omega), hW]; go_simp
  have hx : Bx W0 w.heap.size := by
    rw [hW]
    exact (Bx.new w).keep (Below.heap_alloc _ _ _ (by simp))
  refine ⟨(Aw.of hb).trans (ha.mono (by omega)), by have := ha.size; omega, c1 0, c1 1, c1 2, c1 3, f1, hx.keep (ha.block _ (by omega) (by omega)), World.ownsRow_nil _ _ _ _, World.ownsRow_nil _ _ _ _, (fun g e => by cases e), (fun i x hx => by simp at hx), hM, (fun e => by cases e), (fun e => by cases e)⟩

/-- What comes out of a list or an object: its value lies in new blocks. -/
theorem JSt.doneB {w W : World} {R M : Nat} {kk : Int} {dd : Nat} {ns : List ByteArray} {xs : List JV} {cs : List Value} {vN vL : Value} (h : JSt w R M kk dd ns xs cs vN vL W) (hx : xs.length ≤ 1000000) (hn : ns.length ≤ 1000000) (hz : ∀ m ∈ ns, m.size ≤ 1000000) (W' : World)
    (hc : ∀ b o, b ≠ w.heap.size → W'.cell? ⟨b, o, none⟩ = W.cell? ⟨b, o, none⟩) (hsz : W'.heap.size = W.heap.size) :
    RdD W' (fun b => w.heap.size ≤ b ∧ b < W'.heap.size) (dd + 1) (.mk kk ⟨#[]⟩ ns xs) (.agg #[.int .i64 kk, .string ⟨#[]⟩, vN, vL]) := by
  have hs := h.sz
  obtain ⟨aN, cN, rfl, hcN, hN⟩ := fresh_row h.oN
  obtain ⟨aL, cL, rfl, hcL, hL⟩ := fresh_row h.oL
  have hcl : cs.length = xs.length * 4 := h.oL.1
  refine ⟨aN, cN, aL, cL, rfl, ⟨Nat.zero_le _, by show ns.length ≤ _; omega, by show xs.length ≤ _; omega, hcN, hcL⟩, fun hp => ?_, fun hp => ?_⟩
  · obtain ⟨g, rfl, hg1, hg2, _, hg3⟩ := hN hp
    refine ⟨g, 0, rfl, ⟨by omega, by omega⟩, fun j s hj => ?_⟩
    have hlt : j < ns.length := (List.getElem?_eq_some_iff.1 hj).1
    refine ⟨Nat.le_trans (hz s (List.mem_of_getElem? hj)) (by decide), ?_⟩
    rw [hc g _ (by omega), Nat.zero_add, hg3 j (by omega), List.getElem?_map]
    have hj' : ns[j]? = some s := hj
    rw [hj']; rfl
  · obtain ⟨g, rfl, hg1, hg2, _, hg3⟩ := hL hp
    refine ⟨g, 0, rfl, ⟨by omega, by omega⟩, fun i x hx => ?_⟩
    have hlt : i < xs.length := (List.getElem?_eq_some_iff.1 hx).1
    obtain ⟨d0, d1, d2, d3, h0, h1, h2, h3, hR⟩ := h.rd i x hx
    have hat : ∀ k u, k < 4 → cs[i * 4 + k]? = some u → W'.cell? ⟨g, 0 + i * 4 + k, none⟩ = some u := fun k u hk hu => by
      rw [hc g _ (by omega), Nat.zero_add, hg3 (i * 4 + k) (by omega)]
      exact hu
    exact ⟨d0, d1, d2, d3, ⟨hat 0 d0 (by omega) h0, hat 1 d1 (by omega) h1, hat 2 d2 (by omega) h2, hat 3 d3 (by omega) h3⟩, RdD.step (fun b hd => ⟨by have := hd.1; omega, by rw [hsz]; exact hd.2.1⟩) (fun b o hd => hc b o (by have := hd.1; omega)) hR⟩

theorem JSt.done {w W : World} {R M : Nat} {kk : Int} {dd : Nat} {ns : List ByteArray} {xs : List JV} {cs : List Value} {vN vL : Value} (h : JSt w R M kk dd ns xs cs vN vL W) (hx : xs.length ≤ 4000) (hn : ns.length ≤ 4000) (hz : ∀ m ∈ ns, m.size ≤ 16000) (W' : World)
    (hc : ∀ b o, b ≠ w.heap.size → W'.cell? ⟨b, o, none⟩ = W.cell? ⟨b, o, none⟩) (hsz : W'.heap.size = W.heap.size) :
    RdD W' (fun b => w.heap.size ≤ b ∧ b < W'.heap.size) (dd + 1) (.mk kk ⟨#[]⟩ ns xs) (.agg #[.int .i64 kk, .string ⟨#[]⟩, vN, vL]) :=
  h.doneB (by omega) (by omega) (fun m hm => Nat.le_trans (hz m hm) (by decide)) W' hc hsz

theorem JSt.boxL {w W W' : World} {R M : Nat} {kk : Int} {dd : Nat} {ns : List ByteArray} {xs : List JV} {cs : List Value} {vN vL : Value} (h : JSt w R M kk dd ns xs cs vN vL W) (hg : W.grownBy W' vL.ownBlock) :
    (∀ o, W'.cell? ⟨w.heap.size + 1, o, none⟩ = W.cell? ⟨w.heap.size + 1, o, none⟩) ∧ ∀ o, W'.frozen? ⟨w.heap.size + 1, o, none⟩ = false := by
  have hs := h.sz
  have hblk : W'.heap[w.heap.size + 1]? = W.heap[w.heap.size + 1]? := hg.block _ (by omega) (fun e => by
    have := (h.oL.lt (w.heap.size + 1) (by first | exact e | exact e.symm)).1; omega)
  exact ⟨fun o => World.cell?_of_block (a := ⟨w.heap.size + 1, o, none⟩) hblk, fun o => (World.frozen?_of_block (a := ⟨w.heap.size + 1, o, none⟩) hblk).trans (h.bf o)⟩
theorem JSt.boxN {w W W' : World} {R M : Nat} {kk : Int} {dd : Nat} {ns : List ByteArray} {xs : List JV} {cs : List Value} {vN vL : Value} (h : JSt w R M kk dd ns xs cs vN vL W) (hg : W.grownBy W' vN.ownBlock) :
    (∀ o, W'.cell? ⟨w.heap.size + 1, o, none⟩ = W.cell? ⟨w.heap.size + 1, o, none⟩) ∧ ∀ o, W'.frozen? ⟨w.heap.size + 1, o, none⟩ = false := by
  have hs := h.sz
  have hblk : W'.heap[w.heap.size + 1]? = W.heap[w.heap.size + 1]? := hg.block _ (by omega) (fun e => by
    have := (h.oN.lt (w.heap.size + 1) (by first | exact e | exact e.symm)).1; omega)
  exact ⟨fun o => World.cell?_of_block (a := ⟨w.heap.size + 1, o, none⟩) hblk, fun o => (World.frozen?_of_block (a := ⟨w.heap.size + 1, o, none⟩) hblk).trans (h.bf o)⟩

theorem str_one (x : ByteArray) : ∀ u ∈ [Value.string x], u.oneCell' = true := by
  intro u hu
  simp at hu
  subst hu
  rfl


theorem rd_leaf (W : World) (D : Nat → Prop) (n : Nat) (k : Int) (s : ByteArray) (hs : s.size ≤ 2000000) : RdD W D (n + 1) (.mk k s [] []) (leaf k s) :=
  ⟨none, 0, none, 0, rfl, ⟨hs, Nat.zero_le _, Nat.zero_le _, Nat.le_refl _, Nat.le_refl _⟩, fun h => absurd h (Nat.lt_irrefl 0), fun h => absurd h (Nat.lt_irrefl 0)⟩

/-- A value that was made, behind the store into the box of the result. -/
theorem rd_boxed {w w1 w2 : World} {n : Nat} {x : JV} {v : Value} (hs : w.heap.size < w1.heap.size) (h : RdD w2 (fun b => w1.heap.size ≤ b ∧ b < w2.heap.size) n x v) (c0 c1 c2 c3 : Value) :
    RdD ((((w2.setCell ⟨w.heap.size, 0, none⟩ c0).setCell ⟨w.heap.size, 1, none⟩ c1).setCell ⟨w.heap.size, 2, none⟩ c2).setCell ⟨w.heap.size, 3, none⟩ c3) (fun b => w.heap.size ≤ b ∧ b < ((((w2.setCell ⟨w.heap.size, 0, none⟩ c0).setCell ⟨w.heap.size, 1, none⟩ c1).setCell ⟨w.heap.size, 2, none⟩ c2).setCell ⟨w.heap.size, 3, none⟩ c3).heap.size) n x v :=
  RdD.step (fun b hd => ⟨by omega, by rw [size_four]; exact hd.2⟩) (fun b o hd => World.cell?_of_block (a := ⟨b, o, none⟩) (heap_four _ _ _ _ _ _ b (by omega))) h


end Go.Proofs.YtkahnlgedacppaaGreatDoor
