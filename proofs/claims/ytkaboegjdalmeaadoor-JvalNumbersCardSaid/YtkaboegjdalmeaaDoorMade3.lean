/-
  The state of refectorylaw02.Made while it makes a list or an object: two rows of its own that grow, and what was read stays.
-/
import Derived.Test.YtkaboegjdalmeaaDoorMade2
import Derived.StillTailTactics
namespace Go.Proofs.YtkaboegjdalmeaaDoor
open Go.RowKit

def MD (w W : World) (vN vL : Value) (b : Nat) : Prop := w.heap.size + 2 ≤ b ∧ b < W.heap.size ∧ vN.ownBlock ≠ some b ∧ vL.ownBlock ≠ some b
def RowsC (W : World) (D : Nat → Prop) (dd : Nat) (cs : List Value) (xs : List JV) : Prop :=
  ∀ i x, xs[i]? = some x → ∃ c0 c1 c2 c3, cs[i * 4]? = some c0 ∧ cs[i * 4 + 1]? = some c1 ∧ cs[i * 4 + 2]? = some c2 ∧ cs[i * 4 + 3]? = some c3 ∧ RdD W D dd x (.agg #[c0, c1, c2, c3])

structure MSt (w : World) (kk : Int) (dd : Nat) (ns : List ByteArray) (xs : List JV) (cs : List Value) (vN vL : Value) (W : World) : Prop where
  below : Below w.heap.size w W
  sz : w.heap.size + 2 ≤ W.heap.size
  b0 : W.cell? ⟨w.heap.size + 1, 0, none⟩ = some (.int .i64 kk)
  b1 : W.cell? ⟨w.heap.size + 1, 1, none⟩ = some (.string ⟨#[]⟩)
  b2 : W.cell? ⟨w.heap.size + 1, 2, none⟩ = some vN
  b3 : W.cell? ⟨w.heap.size + 1, 3, none⟩ = some vL
  bf : ∀ j, W.frozen? ⟨w.heap.size + 1, j, none⟩ = false
  r0 : W.cell? ⟨w.heap.size, 0, none⟩ = some (.int .i64 0)
  r1 : W.cell? ⟨w.heap.size, 1, none⟩ = some (.string ⟨#[]⟩)
  r2 : W.cell? ⟨w.heap.size, 2, none⟩ = some (.slice none 0 0)
  r3 : W.cell? ⟨w.heap.size, 3, none⟩ = some (.slice none 0 0)
  rf : ∀ j, W.frozen? ⟨w.heap.size, j, none⟩ = false
  oN : W.ownsRow (w.heap.size + 2) 9 1 vN ns.length (ns.map Value.string)
  oL : W.ownsRow (w.heap.size + 2) 25 4 vL xs.length cs
  ne : ∀ g, vN.ownBlock = some g → vL.ownBlock ≠ some g
  rd : RowsC W (MD w W vN vL) dd cs xs
  ck : ∀ x ∈ xs, chkAt dd x = true ∧ (txt dd x).length ≤ tlen dd

theorem RowsC.step {w w' : World} {D D' : Nat → Prop} {dd : Nat} {cs : List Value} {xs : List JV} (h : RowsC w D dd cs xs) (hD : ∀ b, D b → D' b) (hk : ∀ b o, D b → w'.cell? ⟨b, o, none⟩ = w.cell? ⟨b, o, none⟩) : RowsC w' D' dd cs xs := fun i x hx => by
  obtain ⟨c0, c1, c2, c3, h0, h1, h2, h3, hR⟩ := h i x hx
  exact ⟨c0, c1, c2, c3, h0, h1, h2, h3, RdD.step hD hk hR⟩

/-- Nothing older has changed. -/
theorem MSt.grow {w W W' : World} {kk : Int} {dd : Nat} {ns : List ByteArray} {xs : List JV} {cs : List Value} {vN vL : Value} (h : MSt w kk dd ns xs cs vN vL W) (hb : Below W.heap.size W W') : MSt w kk dd ns xs cs vN vL W' := by
  have hs := h.sz
  have hz := hb.size
  have c : ∀ b o, b < W.heap.size → W'.cell? ⟨b, o, none⟩ = W.cell? ⟨b, o, none⟩ := fun b o hl => hb.cell (p := ⟨b, o, none⟩) hl
  have f : ∀ b o, b < W.heap.size → W'.frozen? ⟨b, o, none⟩ = W.frozen? ⟨b, o, none⟩ := fun b o hl => hb.frozen (p := ⟨b, o, none⟩) hl
  have hg : W.grownBy W' none := ⟨hb.os, hb.tape, hb.output, hb.size, fun j hj _ => hb.block j hj⟩
  exact ⟨h.below.trans (hb.mono (by omega)), by omega, (c _ _ (by omega)).trans h.b0, (c _ _ (by omega)).trans h.b1, (c _ _ (by omega)).trans h.b2, (c _ _ (by omega)).trans h.b3, fun j => (f _ _ (by omega)).trans (h.bf j),
    (c _ _ (by omega)).trans h.r0, (c _ _ (by omega)).trans h.r1, (c _ _ (by omega)).trans h.r2, (c _ _ (by omega)).trans h.r3, fun j => (f _ _ (by omega)).trans (h.rf j),
    h.oN.kept hg (by cases hv : vN.ownBlock <;> simp), h.oL.kept hg (by cases hv : vL.ownBlock <;> simp), h.ne,
    h.rd.step (fun b hd => ⟨hd.1, Nat.lt_of_lt_of_le hd.2.1 hz, hd.2.2⟩) (fun b o hd => c b o hd.2.1), h.ck⟩

/-- What is made anew can be read through blocks that are no row's. -/
theorem MSt.fresh {w W W' : World} {kk : Int} {dd : Nat} {ns : List ByteArray} {xs : List JV} {cs : List Value} {vN vL : Value} (h : MSt w kk dd ns xs cs vN vL W) (b : Nat) (hb : W.heap.size ≤ b ∧ b < W'.heap.size) : MD w W' vN vL b := by
  refine ⟨Nat.le_trans h.sz hb.1, hb.2, fun e => ?_, fun e => ?_⟩
  · have := (h.oN.lt b e).2; omega
  · have := (h.oL.lt b e).2; omega

/-- One more in the list. -/
theorem MSt.list {w W W' : World} {kk : Int} {dd : Nat} {ns : List ByteArray} {xs : List JV} {cs : List Value} {vN vL vL' : Value} {x : JV} {c0 c1 c2 c3 : Value} (h : MSt w kk dd ns xs cs vN vL W)
    (hx : RdD W (MD w W vN vL) dd x (.agg #[c0, c1, c2, c3])) (hck : chkAt dd x = true ∧ (txt dd x).length ≤ tlen dd) (hown : W'.ownsRow (w.heap.size + 2) 25 4 vL' (xs.length + 1) (cs ++ [c0, c1, c2, c3])) (hg : W.grownBy W' vL.ownBlock)
    (hlie : vL'.ownBlock = vL.ownBlock ∨ vL'.ownBlock = some W.heap.size) : MSt w kk dd ns (xs ++ [x]) (cs ++ [c0, c1, c2, c3]) vN vL' (W'.setCell ⟨w.heap.size + 1, 3, none⟩ vL') := by
  have hs := h.sz
  have hz := hg.size
  have hLlt : ∀ g, vL.ownBlock = some g → w.heap.size + 2 ≤ g := fun g e => (h.oL.lt g e).1
  have hL'lt : ∀ g, vL'.ownBlock = some g → w.heap.size + 2 ≤ g := fun g e => (hown.lt g e).1
  have hNlt : ∀ g, vN.ownBlock = some g → w.heap.size + 2 ≤ g ∧ g < W.heap.size := fun g e => h.oN.lt g e
  have hblk : ∀ b, b < W.heap.size → vL.ownBlock ≠ some b → W'.heap[b]? = W.heap[b]? := fun b hb hn => hg.block b hb (by first | exact hn | exact fun e => hn e.symm)
  have hb : ∀ b o, b < W.heap.size → vL.ownBlock ≠ some b → b ≠ w.heap.size + 1 → (W'.setCell ⟨w.heap.size + 1, 3, none⟩ vL').cell? ⟨b, o, none⟩ = W.cell? ⟨b, o, none⟩ := fun b o hb hn hne => by
    rw [World.cell?_setCell_other _ _ _ _ (by intro e; have := congrArg Addr.block e; simp at this; omega)]
    exact World.cell?_of_block (a := ⟨b, o, none⟩) (hblk b hb hn)
  have hbox : ∀ o, W'.cell? ⟨w.heap.size + 1, o, none⟩ = W.cell? ⟨w.heap.size + 1, o, none⟩ := fun o => World.cell?_of_block (a := ⟨w.heap.size + 1, o, none⟩) (hblk (w.heap.size + 1) (by omega) (fun e => by have := hLlt _ e; omega))
  have hbo : ∀ o, o ≠ 3 → (W'.setCell ⟨w.heap.size + 1, 3, none⟩ vL').cell? ⟨w.heap.size + 1, o, none⟩ = W.cell? ⟨w.heap.size + 1, o, none⟩ := fun o ho => by
    rw [World.cell?_setCell_other _ _ _ _ (by intro e; injection e with _ e; omega)]
    exact hbox o
  have hfz : ∀ b o, b < W.heap.size → vL.ownBlock ≠ some b → (W'.setCell ⟨w.heap.size + 1, 3, none⟩ vL').frozen? ⟨b, o, none⟩ = W.frozen? ⟨b, o, none⟩ := fun b o hb hn => by
    rw [World.frozen?_setCell]
    exact World.frozen?_of_block (a := ⟨b, o, none⟩) (hblk b hb hn)
  have hsz : (W'.setCell ⟨w.heap.size + 1, 3, none⟩ vL').heap.size = W'.heap.size := by simp [World.setCell]
  have hr : ∀ o, (W'.setCell ⟨w.heap.size + 1, 3, none⟩ vL').cell? ⟨w.heap.size, o, none⟩ = W.cell? ⟨w.heap.size, o, none⟩ := fun o => hb _ o (by omega) (fun e => by have := hLlt _ e; omega) (by omega)
  have hD : ∀ b, MD w W vN vL b → MD w (W'.setCell ⟨w.heap.size + 1, 3, none⟩ vL') vN vL' b := fun b hd => ⟨hd.1, by rw [hsz]; have := hd.2.1; omega, hd.2.2.1, by
    rcases hlie with e | e
    · rw [e]; exact hd.2.2.2
    · rw [e]; intro e2; have := Option.some.inj e2; have := hd.2.1; omega⟩
  have hk : ∀ b o, MD w W vN vL b → (W'.setCell ⟨w.heap.size + 1, 3, none⟩ vL').cell? ⟨b, o, none⟩ = W.cell? ⟨b, o, none⟩ := fun b o hd => hb b o hd.2.1 hd.2.2.2 (by have := hd.1; omega)
  have hcl : cs.length = xs.length * 4 := h.oL.1
  refine ⟨?_, by rw [hsz]; omega, (hbo 0 (by decide)).trans h.b0, (hbo 1 (by decide)).trans h.b1, (hbo 2 (by decide)).trans h.b2, World.cell?_setCell_same _ _ _ ((hbox 3).trans h.b3), fun j => (hfz _ j (by omega) (fun e => by have := hLlt _ e; omega)).trans (h.bf j),
    (hr 0).trans h.r0, (hr 1).trans h.r1, (hr 2).trans h.r2, (hr 3).trans h.r3, fun j => (hfz _ j (by omega) (fun e => by have := hLlt _ e; omega)).trans (h.rf j), ?_, ?_, ?_, ?_, ?_⟩
  · refine (h.below.trans (c := W') ⟨hg.os, hg.tape, hg.output, by omega, fun k hk => hblk k (by omega) (fun e => by have := hLlt _ e; omega)⟩).setCell (p := ⟨w.heap.size + 1, 3, none⟩) (by show _ ≤ w.heap.size + 1; omega) _
  · refine ownsRow_setCell_other (h.oN.kept hg ?_) ?_ _
    · cases hv : vN.ownBlock with
      | none => exact .inl rfl
      | some g => exact .inr (fun e => h.ne g hv e.symm)
    · intro e; have h1 : w.heap.size + 2 ≤ w.heap.size + 1 ∧ _ := hNlt _ e; omega
  · rw [List.length_append, List.length_singleton]
    exact ownsRow_setCell_other hown (by intro e; have h1 : w.heap.size + 2 ≤ w.heap.size + 1 := hL'lt _ e; omega) _
  · intro g e
    rcases hlie with e2 | e2
    · rw [e2]; exact h.ne g e
    · rw [e2]; intro e3; have := Option.some.inj e3; have := hNlt _ e; omega
  · intro i y hy
    by_cases hi : i < xs.length
    · rw [List.getElem?_append_left hi] at hy
      obtain ⟨d0, d1, d2, d3, h0, h1, h2, h3, hR⟩ := h.rd i y hy
      exact ⟨d0, d1, d2, d3, by rw [List.getElem?_append_left (by omega)]; exact h0, by rw [List.getElem?_append_left (by omega)]; exact h1, by rw [List.getElem?_append_left (by omega)]; exact h2, by rw [List.getElem?_append_left (by omega)]; exact h3, RdD.step hD hk hR⟩
    · have hlt := (List.getElem?_eq_some_iff.1 hy).1
      rw [List.length_append, List.length_singleton] at hlt
      obtain rfl : i = xs.length := by omega
      rw [List.getElem?_append_right (Nat.le_refl _), Nat.sub_self] at hy
      simp at hy
      subst hy
      refine ⟨c0, c1, c2, c3, ?_, ?_, ?_, ?_, RdD.step hD hk hx⟩ <;> rw [List.getElem?_append_right (by omega), hcl]
      · simp
      · rw [Nat.add_sub_cancel_left]; rfl
      · rw [Nat.add_sub_cancel_left]; rfl
      · rw [Nat.add_sub_cancel_left]; rfl
  · intro y hy
    rcases List.mem_append.1 hy with hy | hy
    · exact h.ck y hy
    · simp at hy; subst hy; exact hck

/-- One more name. -/
theorem MSt.name {w W W' : World} {kk : Int} {dd : Nat} {ns : List ByteArray} {xs : List JV} {cs : List Value} {vN vL vN' : Value} {s : ByteArray} (h : MSt w kk dd ns xs cs vN vL W)
    (hown : W'.ownsRow (w.heap.size + 2) 9 1 vN' (ns.length + 1) (ns.map Value.string ++ [.string s])) (hg : W.grownBy W' vN.ownBlock)
    (hlie : vN'.ownBlock = vN.ownBlock ∨ vN'.ownBlock = some W.heap.size) : MSt w kk dd (ns ++ [s]) xs cs vN' vL (W'.setCell ⟨w.heap.size + 1, 2, none⟩ vN') := by
  have hs := h.sz
  have hz := hg.size
  have hLlt : ∀ g, vN.ownBlock = some g → w.heap.size + 2 ≤ g := fun g e => (h.oN.lt g e).1
  have hL'lt : ∀ g, vN'.ownBlock = some g → w.heap.size + 2 ≤ g := fun g e => (hown.lt g e).1
  have hNlt : ∀ g, vL.ownBlock = some g → w.heap.size + 2 ≤ g ∧ g < W.heap.size := fun g e => h.oL.lt g e
  have hblk : ∀ b, b < W.heap.size → vN.ownBlock ≠ some b → W'.heap[b]? = W.heap[b]? := fun b hb hn => hg.block b hb (by first | exact hn | exact fun e => hn e.symm)
  have hb : ∀ b o, b < W.heap.size → vN.ownBlock ≠ some b → b ≠ w.heap.size + 1 → (W'.setCell ⟨w.heap.size + 1, 2, none⟩ vN').cell? ⟨b, o, none⟩ = W.cell? ⟨b, o, none⟩ := fun b o hb hn hne => by
    rw [World.cell?_setCell_other _ _ _ _ (by intro e; have := congrArg Addr.block e; simp at this; omega)]
    exact World.cell?_of_block (a := ⟨b, o, none⟩) (hblk b hb hn)
  have hbox : ∀ o, W'.cell? ⟨w.heap.size + 1, o, none⟩ = W.cell? ⟨w.heap.size + 1, o, none⟩ := fun o => World.cell?_of_block (a := ⟨w.heap.size + 1, o, none⟩) (hblk (w.heap.size + 1) (by omega) (fun e => by have := hLlt _ e; omega))
  have hbo : ∀ o, o ≠ 2 → (W'.setCell ⟨w.heap.size + 1, 2, none⟩ vN').cell? ⟨w.heap.size + 1, o, none⟩ = W.cell? ⟨w.heap.size + 1, o, none⟩ := fun o ho => by
    rw [World.cell?_setCell_other _ _ _ _ (by intro e; injection e with _ e; omega)]
    exact hbox o
  have hfz : ∀ b o, b < W.heap.size → vN.ownBlock ≠ some b → (W'.setCell ⟨w.heap.size + 1, 2, none⟩ vN').frozen? ⟨b, o, none⟩ = W.frozen? ⟨b, o, none⟩ := fun b o hb hn => by
    rw [World.frozen?_setCell]
    exact World.frozen?_of_block (a := ⟨b, o, none⟩) (hblk b hb hn)
  have hsz : (W'.setCell ⟨w.heap.size + 1, 2, none⟩ vN').heap.size = W'.heap.size := by simp [World.setCell]
  have hr : ∀ o, (W'.setCell ⟨w.heap.size + 1, 2, none⟩ vN').cell? ⟨w.heap.size, o, none⟩ = W.cell? ⟨w.heap.size, o, none⟩ := fun o => hb _ o (by omega) (fun e => by have := hLlt _ e; omega) (by omega)
  refine ⟨?_, by rw [hsz]; omega, (hbo 0 (by decide)).trans h.b0, (hbo 1 (by decide)).trans h.b1, World.cell?_setCell_same _ _ _ ((hbox 2).trans h.b2), (hbo 3 (by decide)).trans h.b3, fun j => (hfz _ j (by omega) (fun e => by have := hLlt _ e; omega)).trans (h.bf j),
    (hr 0).trans h.r0, (hr 1).trans h.r1, (hr 2).trans h.r2, (hr 3).trans h.r3, fun j => (hfz _ j (by omega) (fun e => by have := hLlt _ e; omega)).trans (h.rf j), ?_, ?_, ?_, ?_, h.ck⟩
  · refine (h.below.trans (c := W') ⟨hg.os, hg.tape, hg.output, by omega, fun k hk => hblk k (by omega) (fun e => by have := hLlt _ e; omega)⟩).setCell (p := ⟨w.heap.size + 1, 2, none⟩) (by show _ ≤ w.heap.size + 1; omega) _
  · rw [List.length_append, List.length_singleton, List.map_append]
    exact ownsRow_setCell_other hown (by intro e; have h1 : w.heap.size + 2 ≤ w.heap.size + 1 := hL'lt _ e; omega) _
  · refine ownsRow_setCell_other (h.oL.kept hg ?_) ?_ _
    · cases hv : vL.ownBlock with
      | none => exact .inl rfl
      | some g => exact .inr (fun e => h.ne g e.symm hv)
    · intro e; have h1 : w.heap.size + 2 ≤ w.heap.size + 1 ∧ _ := hNlt _ e; omega
  · intro g e e2
    rcases hlie with e3 | e3
    · rw [e3] at e; exact h.ne g e e2
    · rw [e3] at e; have := Option.some.inj e; have := hNlt _ e2; omega
  · refine h.rd.step (fun b hd => ⟨hd.1, by rw [hsz]; have := hd.2.1; omega, ?_, hd.2.2.2⟩) (fun b o hd => hb b o hd.2.1 hd.2.2.1 (by have := hd.1; omega))
    rcases hlie with e | e
    · rw [e]; exact hd.2.2.1
    · rw [e]; intro e2; have := Option.some.inj e2; have := hd.2.1; omega

/-- The digits of a number below 10: nothing is drawn. -/
theorem digit1 (v : Nat) (w : World) (h10 : v < 10) :
    Calls Tryd.prog 21 #[.int .i64 v] w fun e w' => e = .returned (.string ⟨#[dch v]⟩) ∧ w' = w := by
  have d1 : decide ((v : Int) ≤ -10) = false := decide_eq_false (by omega)
  have d2 : decide ((v : Int) < 0) = false := decide_eq_false (by omega)
  have d3 : decide ((v : Int) < 10) = true := by simp; omega
  have hsl := digit_slice v h10
  have h2 : ∀ W, Calls Tryd.prog 35 #[.int .i64 v] W fun e w' => e = .returned (.string ⟨#[dch v]⟩) ∧ w' = W := fun W => by
    go_enter Tryd.func35, Tryd.ntmps35
    go_wp2_with fail
    go_ret
    exact ⟨rfl, rfl⟩
  clear hsl d1 d2 d3
  go_enter Tryd.func21, Tryd.ntmps21
  go_wp2_with fail
  refine (h2 _).mono ?_
  rintro e w1 ⟨rfl, rfl⟩
  go_wp2_with fail
  go_ret
  exact ⟨rfl, rfl⟩

/-- What comes out. -/
theorem MSt.done {w W W' : World} {kk : Int} {dd n : Nat} {ns : List ByteArray} {xs : List JV} {cs : List Value} {vN vL : Value} (h : MSt w kk dd ns xs cs vN vL W) (hn : n ≤ 3) (hxs : xs.length = n) (hk : (kk = 7 ∧ ns = []) ∨ (kk = 8 ∧ ns = nmL n n)) (at' : Nat) (hat : at' ≤ 100)
    (hc : ∀ b o, b ≠ w.heap.size → W'.cell? ⟨b, o, none⟩ = W.cell? ⟨b, o, none⟩) (hsz : W'.heap.size = W.heap.size) (hbel : Below w.heap.size W W') :
    MadeIs (dd + 1) w (.returned (.tuple #[.agg #[.int .i64 kk, .string ⟨#[]⟩, vN, vL], .int .i64 at'])) W' := by
  have hs := h.sz
  have hnl : ns.length ≤ 3 := by
    rcases hk with ⟨_, e⟩ | ⟨_, e⟩
    · rw [e]; simp
    · rw [e, nmL_len]; exact hn
  have hnsz : ∀ s ∈ ns, s.size ≤ 2 := by
    rcases hk with ⟨_, e⟩ | ⟨_, e⟩
    · rw [e]; simp
    · rw [e]
      have : ∀ k, ∀ s ∈ nmL n k, s.size ≤ 2 := by
        intro k
        induction k with
        | zero => intro s hs; cases hs
        | succ k ih =>
          intro s hs
          unfold nmL at hs
          rcases List.mem_append.1 hs with hs | hs
          · exact ih s hs
          · simp at hs; subst hs; exact Nat.le_refl _
      exact this n
  obtain ⟨aN, cN, rfl, hcN, hN⟩ := fresh_row h.oN
  obtain ⟨aL, cL, rfl, hcL, hL⟩ := fresh_row h.oL
  have hcl : cs.length = xs.length * 4 := h.oL.1
  refine ⟨.mk kk ⟨#[]⟩ ns xs, _, at', rfl, hat, ⟨aN, cN, aL, cL, rfl, ⟨Nat.zero_le _, by show ns.length ≤ _; omega, by show xs.length ≤ _; omega, hcN, hcL⟩, fun hp => ?_, fun hp => ?_⟩, ?_, ?_, h.below.trans hbel⟩
  · obtain ⟨g, rfl, hg1, hg2, _, hg3⟩ := hN hp
    refine ⟨g, 0, rfl, ⟨by omega, by omega⟩, fun j s hj => ?_⟩
    have hlt : j < ns.length := (List.getElem?_eq_some_iff.1 hj).1
    refine ⟨Nat.le_trans (hnsz s (List.mem_of_getElem? hj)) (by decide), ?_⟩
    rw [hc g _ (by omega), Nat.zero_add, hg3 j (by omega), List.getElem?_map]
    have hj' : ns[j]? = some s := hj
    rw [hj']; rfl
  · obtain ⟨g, rfl, hg1, hg2, _, hg3⟩ := hL hp
    refine ⟨g, 0, rfl, ⟨by omega, by omega⟩, fun i x hx => ?_⟩
    have hlt : i < xs.length := (List.getElem?_eq_some_iff.1 hx).1
    obtain ⟨d0, d1, d2, d3, h0, h1, h2, h3, hR⟩ := h.rd i x hx
    have hat : ∀ k u, k < 4 → cs[i * 4 + k]? = some u → W'.cell? ⟨g, 0 + i * 4 + k, none⟩ = some u := fun k u hk hu => by
      rw [hc g _ (by omega), Nat.zero_add, hg3 (i * 4 + k) (by omega)]
      exact hu
    exact ⟨d0, d1, d2, d3, ⟨hat 0 d0 (by omega) h0, hat 1 d1 (by omega) h1, hat 2 d2 (by omega) h2, hat 3 d3 (by omega) h3⟩, RdD.step (fun b hd => ⟨by have := hd.1; omega, by rw [hsz]; exact hd.2.1⟩) (fun b o hd => hc b o (by have := hd.1; omega)) hR⟩
  · show (selfB (.mk kk ⟨#[]⟩ ns xs) && xs.all (chkAt dd)) = true
    rw [Bool.and_eq_true]
    refine ⟨?_, List.all_eq_true.2 fun x hx => (h.ck x hx).1⟩
    rcases hk with ⟨rfl, rfl⟩ | ⟨rfl, rfl⟩
    · rfl
    · rw [self_obj (x := .mk 8 ⟨#[]⟩ (nmL n n) xs) rfl]
      show (true && decide ((nmL n n).length = xs.length) && nmOk (nmL n n)) = true
      rw [nm_ok n hn, nmL_len, hxs]
      simp
  · have e : tlen (dd + 1) = 100 + 3 * (tlen dd + 20) := rfl
    rw [e]
    have hq : ∀ s ∈ ns, (quoteB (vbl s)).length ≤ 14 := fun s hs => by
      have h1 := hnsz s hs
      have h2 := quoteIn_len (vbl s)
      have h3 : (vbl s).length = s.size := rfl
      unfold quoteB
      split
      · simp only [List.length_cons, List.length_append, List.length_nil]; omega
      · simp
    have hpts : ∀ (ob : Bool) (xs : List JV) (ns : List ByteArray) (fst : Bool), (∀ s ∈ ns, (quoteB (vbl s)).length ≤ 14) → (∀ x ∈ xs, (txt dd x).length ≤ tlen dd) → (pts (txt dd) ob fst ns xs).length ≤ xs.length * (tlen dd + 20) := by
      intro ob xs
      induction xs with
      | nil => intro ns fst _ _; exact Nat.zero_le _
      | cons p r ih =>
        intro ns fst h1 h2
        have e1 := ih ns.tail false (fun s hs => h1 s (List.mem_of_mem_tail hs)) (fun x hx => h2 x (by simp [hx]))
        have e2 := h2 p (by simp)
        have e3 : (quoteB (vbl (ns.headD ⟨#[]⟩))).length ≤ 14 := by
          cases ns with
          | nil => decide
          | cons s t => exact h1 s (by simp)
        unfold pts
        simp only [List.length_append, List.length_cons, Nat.add_mul, Nat.one_mul]
        have e4 : (if fst then ([] : List UInt8) else [44]).length ≤ 1 := by cases fst <;> decide
        have e5 : (if ob then quoteB (vbl (ns.headD ⟨#[]⟩)) ++ [58] else []).length ≤ 15 := by
          cases ob
          · exact Nat.zero_le _
          · show (quoteB _ ++ [58]).length ≤ 15
            rw [List.length_append]; simp only [List.length_singleton]; omega
        omega
    have hx3 : xs.length * (tlen dd + 20) ≤ 3 * (tlen dd + 20) := Nat.mul_le_mul_right _ (by omega)
    rcases hk with ⟨rfl, _⟩ | ⟨rfl, _⟩
    · rw [txt_list (x := .mk 7 ⟨#[]⟩ ns xs) rfl]
      have := hpts false xs ns true hq (fun x hx => (h.ck x hx).2)
      simp only [List.length_append, List.length_singleton]
      show 1 + ((pts (txt dd) false true ns xs).length + 1) ≤ _
      omega
    · rw [txt_obj (x := .mk 8 ⟨#[]⟩ ns xs) rfl]
      have := hpts true xs ns true hq (fun x hx => (h.ck x hx).2)
      simp only [List.length_append, List.length_singleton]
      show 1 + ((pts (txt dd) true true ns xs).length + 1) ≤ _
      omega

end Go.Proofs.YtkaboegjdalmeaaDoor
