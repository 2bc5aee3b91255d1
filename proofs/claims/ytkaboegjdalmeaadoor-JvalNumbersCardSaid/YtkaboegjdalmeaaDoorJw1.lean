/-
  JvalWrong: an object of two parts, as it lies in memory; what is no value.
-/
import Derived.Test.YtkaboegjdalmeaaDoorMade5
namespace Go.Proofs.YtkaboegjdalmeaaDoor
open Go.RowKit

set_option maxHeartbeats 1000000 in
set_option maxRecDepth 100000 in
/-- What is no value has no text, however long it would be. -/
theorem text_none (B n : Nat) (x : JV) (v : Value) (w : World) (hB : B ≤ w.heap.size) (h : Rd w B n x v) (hk : chkAt 12 x = false) :
    Calls Tryd.prog 15 #[v] w (StrBelow w []) := by
  have hc := fun W (hb : Below w.heap.size w W) => check_any B n x v W (Nat.le_trans hB hb.size) (h.below (hb.mono hB))
  have hbA : ∀ o, Below w.heap.size w (w.alloc o) := fun o => (Below.refl _ w).alloc (Nat.le_refl _) o
  obtain ⟨an, cn, ap, cp, rfl⟩ := h.shape
  rw [hk] at hc
  clear hk
  go_enter Tryd.func15, Tryd.ntmps15
  go_wp2_with ((go_at_call 13); (refine (hc _ (hbA _)).mono ?_); rintro e w2 ⟨rfl, b2⟩)
  go_ret
  exact strBelow_mk (l := []) rfl ((hbA _).trans (b2.mono (by simp)))

structure XW (W : World) (Nb Lb Xb : Nat) (kk : Int) (s n0 n1 : ByteArray) (nn : Nat) (c0 c1 c2 c3 : Value) (k' : Int) (s' : ByteArray) (x : JV) : Prop where
  x0 : W.cell? ⟨Xb, 0, none⟩ = some (.int .i64 kk)
  x1 : W.cell? ⟨Xb, 1, none⟩ = some (.string s)
  x2 : W.cell? ⟨Xb, 2, none⟩ = some (.slice (some ⟨Nb, 0, none⟩) nn 2)
  x3 : W.cell? ⟨Xb, 3, none⟩ = some (.slice (some ⟨Lb, 0, none⟩) 2 2)
  m0 : W.cell? ⟨Nb, 0, none⟩ = some (.string n0)
  m1 : W.cell? ⟨Nb, 1, none⟩ = some (.string n1)
  l0 : W.cell? ⟨Lb, 0, none⟩ = some c0
  l1 : W.cell? ⟨Lb, 1, none⟩ = some c1
  l2 : W.cell? ⟨Lb, 2, none⟩ = some c2
  l3 : W.cell? ⟨Lb, 3, none⟩ = some c3
  l4 : W.cell? ⟨Lb, 4, none⟩ = some (.int .i64 k')
  l5 : W.cell? ⟨Lb, 5, none⟩ = some (.string s')
  l6 : W.cell? ⟨Lb, 6, none⟩ = some (.slice none 0 0)
  l7 : W.cell? ⟨Lb, 7, none⟩ = some (.slice none 0 0)
  tN : Nb < W.heap.size
  tL : Lb < W.heap.size
  tX : Xb < W.heap.size
  fN : ∀ j, W.frozen? ⟨Nb, j, none⟩ = false
  fL : ∀ j, W.frozen? ⟨Lb, j, none⟩ = false
  fX : ∀ j, W.frozen? ⟨Xb, j, none⟩ = false
  rd : RdD W (fun b => b < W.heap.size ∧ b ≠ Nb ∧ b ≠ Lb ∧ b ≠ Xb) 5 x (.agg #[c0, c1, c2, c3])
  dNL : Nb ≠ Lb
  dNX : Nb ≠ Xb
  dLX : Lb ≠ Xb

theorem XW.grow {W W' : World} {Nb Lb Xb : Nat} {kk : Int} {s n0 n1 : ByteArray} {nn : Nat} {c0 c1 c2 c3 : Value} {k' : Int} {s' : ByteArray} {x : JV} (h : XW W Nb Lb Xb kk s n0 n1 nn c0 c1 c2 c3 k' s' x) (hb : Below W.heap.size W W') : XW W' Nb Lb Xb kk s n0 n1 nn c0 c1 c2 c3 k' s' x := by
  have c : ∀ b o, b < W.heap.size → W'.cell? ⟨b, o, none⟩ = W.cell? ⟨b, o, none⟩ := fun b o hl => hb.cell (p := ⟨b, o, none⟩) hl
  have f : ∀ b o, b < W.heap.size → W'.frozen? ⟨b, o, none⟩ = W.frozen? ⟨b, o, none⟩ := fun b o hl => hb.frozen (p := ⟨b, o, none⟩) hl
  exact ⟨(c _ _ h.tX).trans h.x0, (c _ _ h.tX).trans h.x1, (c _ _ h.tX).trans h.x2, (c _ _ h.tX).trans h.x3, (c _ _ h.tN).trans h.m0, (c _ _ h.tN).trans h.m1,
    (c _ _ h.tL).trans h.l0, (c _ _ h.tL).trans h.l1, (c _ _ h.tL).trans h.l2, (c _ _ h.tL).trans h.l3, (c _ _ h.tL).trans h.l4, (c _ _ h.tL).trans h.l5, (c _ _ h.tL).trans h.l6, (c _ _ h.tL).trans h.l7,
    Nat.lt_of_lt_of_le h.tN hb.size, Nat.lt_of_lt_of_le h.tL hb.size, Nat.lt_of_lt_of_le h.tX hb.size, fun j => (f _ _ h.tN).trans (h.fN j), fun j => (f _ _ h.tL).trans (h.fL j), fun j => (f _ _ h.tX).trans (h.fX j),
    RdD.step (fun b hd => ⟨Nat.lt_of_lt_of_le hd.1 hb.size, hd.2⟩) (fun b o hd => c b o hd.1) h.rd, h.dNL, h.dNX, h.dLX⟩

/-- A cell of one of the three blocks set anew: what is read of the first part stays. -/
theorem XW.rdSet {W : World} {Nb Lb Xb : Nat} {x : JV} {v u : Value} {p : Addr} (h : RdD W (fun b => b < W.heap.size ∧ b ≠ Nb ∧ b ≠ Lb ∧ b ≠ Xb) 5 x v) (hp : p.block = Nb ∨ p.block = Lb ∨ p.block = Xb) :
    RdD (W.setCell p u) (fun b => b < (W.setCell p u).heap.size ∧ b ≠ Nb ∧ b ≠ Lb ∧ b ≠ Xb) 5 x v := by
  have hsz : (W.setCell p u).heap.size = W.heap.size := by simp [World.setCell]
  refine RdD.step (fun b hd => ⟨by rw [hsz]; exact hd.1, hd.2⟩) (fun b o hd => World.cell?_setCell_other _ _ _ _ ?_) h
  intro e
  subst e
  obtain ⟨_, h1, h2, h3⟩ := hd
  rcases hp with e | e | e
  · exact h1 e
  · exact h2 e
  · exact h3 e

theorem XW.setK {W : World} {Nb Lb Xb : Nat} {kk : Int} {s n0 n1 : ByteArray} {nn : Nat} {c0 c1 c2 c3 : Value} {k' : Int} {s' : ByteArray} {x : JV} (h : XW W Nb Lb Xb kk s n0 n1 nn c0 c1 c2 c3 k' s' x) (u : Int) : XW (W.setCell ⟨Xb, 0, none⟩ (.int .i64 u)) Nb Lb Xb u s n0 n1 nn c0 c1 c2 c3 k' s' x := by
  have hsz : (W.setCell ⟨Xb, 0, none⟩ (.int .i64 u)).heap.size = W.heap.size := by simp [World.setCell]
  exact ⟨World.cell?_setCell_same _ _ _ h.x0, (World.cell?_setCell_other _ _ _ _ (fun e => by injection e with _ e; omega)).trans h.x1, (World.cell?_setCell_other _ _ _ _ (fun e => by injection e with _ e; omega)).trans h.x2, (World.cell?_setCell_other _ _ _ _ (fun e => by injection e with _ e; omega)).trans h.x3, (World.cell?_setCell_other _ _ _ _ (fun e => h.dNX.symm (congrArg Addr.block e))).trans h.m0, (World.cell?_setCell_other _ _ _ _ (fun e => h.dNX.symm (congrArg Addr.block e))).trans h.m1, (World.cell?_setCell_other _ _ _ _ (fun e => h.dLX.symm (congrArg Addr.block e))).trans h.l0, (World.cell?_setCell_other _ _ _ _ (fun e => h.dLX.symm (congrArg Addr.block e))).trans h.l1, (World.cell?_setCell_other _ _ _ _ (fun e => h.dLX.symm (congrArg Addr.block e))).trans h.l2, (World.cell?_setCell_other _ _ _ _ (fun e => h.dLX.symm (congrArg Addr.block e))).trans h.l3, (World.cell?_setCell_other _ _ _ _ (fun e => h.dLX.symm (congrArg Addr.block e))).trans h.l4, (World.cell?_setCell_other _ _ _ _ (fun e => h.dLX.symm (congrArg Addr.block e))).trans h.l5, (World.cell?_setCell_other _ _ _ _ (fun e => h.dLX.symm (congrArg Addr.block e))).trans h.l6, (World.cell?_setCell_other _ _ _ _ (fun e => h.dLX.symm (congrArg Addr.block e))).trans h.l7, by rw [hsz]; exact h.tN, by rw [hsz]; exact h.tL, by rw [hsz]; exact h.tX, fun j => (World.frozen?_setCell _ _ _ _).trans (h.fN j), fun j => (World.frozen?_setCell _ _ _ _).trans (h.fL j), fun j => (World.frozen?_setCell _ _ _ _).trans (h.fX j), XW.rdSet (p := ⟨Xb, 0, none⟩) h.rd (.inr (.inr rfl)), h.dNL, h.dNX, h.dLX⟩
theorem XW.setS {W : World} {Nb Lb Xb : Nat} {kk : Int} {s n0 n1 : ByteArray} {nn : Nat} {c0 c1 c2 c3 : Value} {k' : Int} {s' : ByteArray} {x : JV} (h : XW W Nb Lb Xb kk s n0 n1 nn c0 c1 c2 c3 k' s' x) (u : ByteArray) : XW (W.setCell ⟨Xb, 1, none⟩ (.string u)) Nb Lb Xb kk u n0 n1 nn c0 c1 c2 c3 k' s' x := by
  have hsz : (W.setCell ⟨Xb, 1, none⟩ (.string u)).heap.size = W.heap.size := by simp [World.setCell]
  exact ⟨(World.cell?_setCell_other _ _ _ _ (fun e => by injection e with _ e; omega)).trans h.x0, World.cell?_setCell_same _ _ _ h.x1, (World.cell?_setCell_other _ _ _ _ (fun e => by injection e with _ e; omega)).trans h.x2, (World.cell?_setCell_other _ _ _ _ (fun e => by injection e with _ e; omega)).trans h.x3, (World.cell?_setCell_other _ _ _ _ (fun e => h.dNX.symm (congrArg Addr.block e))).trans h.m0, (World.cell?_setCell_other _ _ _ _ (fun e => h.dNX.symm (congrArg Addr.block e))).trans h.m1, (World.cell?_setCell_other _ _ _ _ (fun e => h.dLX.symm (congrArg Addr.block e))).trans h.l0, (World.cell?_setCell_other _ _ _ _ (fun e => h.dLX.symm (congrArg Addr.block e))).trans h.l1, (World.cell?_setCell_other _ _ _ _ (fun e => h.dLX.symm (congrArg Addr.block e))).trans h.l2, (World.cell?_setCell_other _ _ _ _ (fun e => h.dLX.symm (congrArg Addr.block e))).trans h.l3, (World.cell?_setCell_other _ _ _ _ (fun e => h.dLX.symm (congrArg Addr.block e))).trans h.l4, (World.cell?_setCell_other _ _ _ _ (fun e => h.dLX.symm (congrArg Addr.block e))).trans h.l5, (World.cell?_setCell_other _ _ _ _ (fun e => h.dLX.symm (congrArg Addr.block e))).trans h.l6, (World.cell?_setCell_other _ _ _ _ (fun e => h.dLX.symm (congrArg Addr.block e))).trans h.l7, by rw [hsz]; exact h.tN, by rw [hsz]; exact h.tL, by rw [hsz]; exact h.tX, fun j => (World.frozen?_setCell _ _ _ _).trans (h.fN j), fun j => (World.frozen?_setCell _ _ _ _).trans (h.fL j), fun j => (World.frozen?_setCell _ _ _ _).trans (h.fX j), XW.rdSet (p := ⟨Xb, 1, none⟩) h.rd (.inr (.inr rfl)), h.dNL, h.dNX, h.dLX⟩
theorem XW.setNN {W : World} {Nb Lb Xb : Nat} {kk : Int} {s n0 n1 : ByteArray} {nn : Nat} {c0 c1 c2 c3 : Value} {k' : Int} {s' : ByteArray} {x : JV} (h : XW W Nb Lb Xb kk s n0 n1 nn c0 c1 c2 c3 k' s' x) (u : Nat) : XW (W.setCell ⟨Xb, 2, none⟩ (.slice (some ⟨Nb, 0, none⟩) u 2)) Nb Lb Xb kk s n0 n1 u c0 c1 c2 c3 k' s' x := by
  have hsz : (W.setCell ⟨Xb, 2, none⟩ (.slice (some ⟨Nb, 0, none⟩) u 2)).heap.size = W.heap.size := by simp [World.setCell]
  exact ⟨(World.cell?_setCell_other _ _ _ _ (fun e => by injection e with _ e; omega)).trans h.x0, (World.cell?_setCell_other _ _ _ _ (fun e => by injection e with _ e; omega)).trans h.x1, World.cell?_setCell_same _ _ _ h.x2, (World.cell?_setCell_other _ _ _ _ (fun e => by injection e with _ e; omega)).trans h.x3, (World.cell?_setCell_other _ _ _ _ (fun e => h.dNX.symm (congrArg Addr.block e))).trans h.m0, (World.cell?_setCell_other _ _ _ _ (fun e => h.dNX.symm (congrArg Addr.block e))).trans h.m1, (World.cell?_setCell_other _ _ _ _ (fun e => h.dLX.symm (congrArg Addr.block e))).trans h.l0, (World.cell?_setCell_other _ _ _ _ (fun e => h.dLX.symm (congrArg Addr.block e))).trans h.l1, (World.cell?_setCell_other _ _ _ _ (fun e => h.dLX.symm (congrArg Addr.block e))).trans h.l2, (World.cell?_setCell_other _ _ _ _ (fun e => h.dLX.symm (congrArg Addr.block e))).trans h.l3, (World.cell?_setCell_other _ _ _ _ (fun e => h.dLX.symm (congrArg Addr.block e))).trans h.l4, (World.cell?_setCell_other _ _ _ _ (fun e => h.dLX.symm (congrArg Addr.block e))).trans h.l5, (World.cell?_setCell_other _ _ _ _ (fun e => h.dLX.symm (congrArg Addr.block e))).trans h.l6, (World.cell?_setCell_other _ _ _ _ (fun e => h.dLX.symm (congrArg Addr.block e))).trans h.l7, by rw [hsz]; exact h.tN, by rw [hsz]; exact h.tL, by rw [hsz]; exact h.tX, fun j => (World.frozen?_setCell _ _ _ _).trans (h.fN j), fun j => (World.frozen?_setCell _ _ _ _).trans (h.fL j), fun j => (World.frozen?_setCell _ _ _ _).trans (h.fX j), XW.rdSet (p := ⟨Xb, 2, none⟩) h.rd (.inr (.inr rfl)), h.dNL, h.dNX, h.dLX⟩
theorem XW.setN0 {W : World} {Nb Lb Xb : Nat} {kk : Int} {s n0 n1 : ByteArray} {nn : Nat} {c0 c1 c2 c3 : Value} {k' : Int} {s' : ByteArray} {x : JV} (h : XW W Nb Lb Xb kk s n0 n1 nn c0 c1 c2 c3 k' s' x) (u : ByteArray) : XW (W.setCell ⟨Nb, 0, none⟩ (.string u)) Nb Lb Xb kk s u n1 nn c0 c1 c2 c3 k' s' x := by
  have hsz : (W.setCell ⟨Nb, 0, none⟩ (.string u)).heap.size = W.heap.size := by simp [World.setCell]
  exact ⟨(World.cell?_setCell_other _ _ _ _ (fun e => h.dNX (congrArg Addr.block e))).trans h.x0, (World.cell?_setCell_other _ _ _ _ (fun e => h.dNX (congrArg Addr.block e))).trans h.x1, (World.cell?_setCell_other _ _ _ _ (fun e => h.dNX (congrArg Addr.block e))).trans h.x2, (World.cell?_setCell_other _ _ _ _ (fun e => h.dNX (congrArg Addr.block e))).trans h.x3, World.cell?_setCell_same _ _ _ h.m0, (World.cell?_setCell_other _ _ _ _ (fun e => by injection e with _ e; omega)).trans h.m1, (World.cell?_setCell_other _ _ _ _ (fun e => h.dNL (congrArg Addr.block e))).trans h.l0, (World.cell?_setCell_other _ _ _ _ (fun e => h.dNL (congrArg Addr.block e))).trans h.l1, (World.cell?_setCell_other _ _ _ _ (fun e => h.dNL (congrArg Addr.block e))).trans h.l2, (World.cell?_setCell_other _ _ _ _ (fun e => h.dNL (congrArg Addr.block e))).trans h.l3, (World.cell?_setCell_other _ _ _ _ (fun e => h.dNL (congrArg Addr.block e))).trans h.l4, (World.cell?_setCell_other _ _ _ _ (fun e => h.dNL (congrArg Addr.block e))).trans h.l5, (World.cell?_setCell_other _ _ _ _ (fun e => h.dNL (congrArg Addr.block e))).trans h.l6, (World.cell?_setCell_other _ _ _ _ (fun e => h.dNL (congrArg Addr.block e))).trans h.l7, by rw [hsz]; exact h.tN, by rw [hsz]; exact h.tL, by rw [hsz]; exact h.tX, fun j => (World.frozen?_setCell _ _ _ _).trans (h.fN j), fun j => (World.frozen?_setCell _ _ _ _).trans (h.fL j), fun j => (World.frozen?_setCell _ _ _ _).trans (h.fX j), XW.rdSet (p := ⟨Nb, 0, none⟩) h.rd (.inl rfl), h.dNL, h.dNX, h.dLX⟩
theorem XW.setN1 {W : World} {Nb Lb Xb : Nat} {kk : Int} {s n0 n1 : ByteArray} {nn : Nat} {c0 c1 c2 c3 : Value} {k' : Int} {s' : ByteArray} {x : JV} (h : XW W Nb Lb Xb kk s n0 n1 nn c0 c1 c2 c3 k' s' x) (u : ByteArray) : XW (W.setCell ⟨Nb, 1, none⟩ (.string u)) Nb Lb Xb kk s n0 u nn c0 c1 c2 c3 k' s' x := by
  have hsz : (W.setCell ⟨Nb, 1, none⟩ (.string u)).heap.size = W.heap.size := by simp [World.setCell]
  exact ⟨(World.cell?_setCell_other _ _ _ _ (fun e => h.dNX (congrArg Addr.block e))).trans h.x0, (World.cell?_setCell_other _ _ _ _ (fun e => h.dNX (congrArg Addr.block e))).trans h.x1, (World.cell?_setCell_other _ _ _ _ (fun e => h.dNX (congrArg Addr.block e))).trans h.x2, (World.cell?_setCell_other _ _ _ _ (fun e => h.dNX (congrArg Addr.block e))).trans h.x3, (World.cell?_setCell_other _ _ _ _ (fun e => by injection e with _ e; omega)).trans h.m0, World.cell?_setCell_same _ _ _ h.m1, (World.cell?_setCell_other _ _ _ _ (fun e => h.dNL (congrArg Addr.block e))).trans h.l0, (World.cell?_setCell_other _ _ _ _ (fun e => h.dNL (congrArg Addr.block e))).trans h.l1, (World.cell?_setCell_other _ _ _ _ (fun e => h.dNL (congrArg Addr.block e))).trans h.l2, (World.cell?_setCell_other _ _ _ _ (fun e => h.dNL (congrArg Addr.block e))).trans h.l3, (World.cell?_setCell_other _ _ _ _ (fun e => h.dNL (congrArg Addr.block e))).trans h.l4, (World.cell?_setCell_other _ _ _ _ (fun e => h.dNL (congrArg Addr.block e))).trans h.l5, (World.cell?_setCell_other _ _ _ _ (fun e => h.dNL (congrArg Addr.block e))).trans h.l6, (World.cell?_setCell_other _ _ _ _ (fun e => h.dNL (congrArg Addr.block e))).trans h.l7, by rw [hsz]; exact h.tN, by rw [hsz]; exact h.tL, by rw [hsz]; exact h.tX, fun j => (World.frozen?_setCell _ _ _ _).trans (h.fN j), fun j => (World.frozen?_setCell _ _ _ _).trans (h.fL j), fun j => (World.frozen?_setCell _ _ _ _).trans (h.fX j), XW.rdSet (p := ⟨Nb, 1, none⟩) h.rd (.inl rfl), h.dNL, h.dNX, h.dLX⟩
theorem XW.setK' {W : World} {Nb Lb Xb : Nat} {kk : Int} {s n0 n1 : ByteArray} {nn : Nat} {c0 c1 c2 c3 : Value} {k' : Int} {s' : ByteArray} {x : JV} (h : XW W Nb Lb Xb kk s n0 n1 nn c0 c1 c2 c3 k' s' x) (u : Int) : XW (W.setCell ⟨Lb, 4, none⟩ (.int .i64 u)) Nb Lb Xb kk s n0 n1 nn c0 c1 c2 c3 u s' x := by
  have hsz : (W.setCell ⟨Lb, 4, none⟩ (.int .i64 u)).heap.size = W.heap.size := by simp [World.setCell]
  exact ⟨(World.cell?_setCell_other _ _ _ _ (fun e => h.dLX (congrArg Addr.block e))).trans h.x0, (World.cell?_setCell_other _ _ _ _ (fun e => h.dLX (congrArg Addr.block e))).trans h.x1, (World.cell?_setCell_other _ _ _ _ (fun e => h.dLX (congrArg Addr.block e))).trans h.x2, (World.cell?_setCell_other _ _ _ _ (fun e => h.dLX (congrArg Addr.block e))).trans h.x3, (World.cell?_setCell_other _ _ _ _ (fun e => h.dNL.symm (congrArg Addr.block e))).trans h.m0, (World.cell?_setCell_other _ _ _ _ (fun e => h.dNL.symm (congrArg Addr.block e))).trans h.m1, (World.cell?_setCell_other _ _ _ _ (fun e => by injection e with _ e; omega)).trans h.l0, (World.cell?_setCell_other _ _ _ _ (fun e => by injection e with _ e; omega)).trans h.l1, (World.cell?_setCell_other _ _ _ _ (fun e => by injection e with _ e; omega)).trans h.l2, (World.cell?_setCell_other _ _ _ _ (fun e => by injection e with _ e; omega)).trans h.l3, World.cell?_setCell_same _ _ _ h.l4, (World.cell?_setCell_other _ _ _ _ (fun e => by injection e with _ e; omega)).trans h.l5, (World.cell?_setCell_other _ _ _ _ (fun e => by injection e with _ e; omega)).trans h.l6, (World.cell?_setCell_other _ _ _ _ (fun e => by injection e with _ e; omega)).trans h.l7, by rw [hsz]; exact h.tN, by rw [hsz]; exact h.tL, by rw [hsz]; exact h.tX, fun j => (World.frozen?_setCell _ _ _ _).trans (h.fN j), fun j => (World.frozen?_setCell _ _ _ _).trans (h.fL j), fun j => (World.frozen?_setCell _ _ _ _).trans (h.fX j), XW.rdSet (p := ⟨Lb, 4, none⟩) h.rd (.inr (.inl rfl)), h.dNL, h.dNX, h.dLX⟩
theorem XW.setS' {W : World} {Nb Lb Xb : Nat} {kk : Int} {s n0 n1 : ByteArray} {nn : Nat} {c0 c1 c2 c3 : Value} {k' : Int} {s' : ByteArray} {x : JV} (h : XW W Nb Lb Xb kk s n0 n1 nn c0 c1 c2 c3 k' s' x) (u : ByteArray) : XW (W.setCell ⟨Lb, 5, none⟩ (.string u)) Nb Lb Xb kk s n0 n1 nn c0 c1 c2 c3 k' u x := by
  have hsz : (W.setCell ⟨Lb, 5, none⟩ (.string u)).heap.size = W.heap.size := by simp [World.setCell]
  exact ⟨(World.cell?_setCell_other _ _ _ _ (fun e => h.dLX (congrArg Addr.block e))).trans h.x0, (World.cell?_setCell_other _ _ _ _ (fun e => h.dLX (congrArg Addr.block e))).trans h.x1, (World.cell?_setCell_other _ _ _ _ (fun e => h.dLX (congrArg Addr.block e))).trans h.x2, (World.cell?_setCell_other _ _ _ _ (fun e => h.dLX (congrArg Addr.block e))).trans h.x3, (World.cell?_setCell_other _ _ _ _ (fun e => h.dNL.symm (congrArg Addr.block e))).trans h.m0, (World.cell?_setCell_other _ _ _ _ (fun e => h.dNL.symm (congrArg Addr.block e))).trans h.m1, (World.cell?_setCell_other _ _ _ _ (fun e => by injection e with _ e; omega)).trans h.l0, (World.cell?_setCell_other _ _ _ _ (fun e => by injection e with _ e; omega)).trans h.l1, (World.cell?_setCell_other _ _ _ _ (fun e => by injection e with _ e; omega)).trans h.l2, (World.cell?_setCell_other _ _ _ _ (fun e => by injection e with _ e; omega)).trans h.l3, (World.cell?_setCell_other _ _ _ _ (fun e => by injection e with _ e; omega)).trans h.l4, World.cell?_setCell_same _ _ _ h.l5, (World.cell?_setCell_other _ _ _ _ (fun e => by injection e with _ e; omega)).trans h.l6, (World.cell?_setCell_other _ _ _ _ (fun e => by injection e with _ e; omega)).trans h.l7, by rw [hsz]; exact h.tN, by rw [hsz]; exact h.tL, by rw [hsz]; exact h.tX, fun j => (World.frozen?_setCell _ _ _ _).trans (h.fN j), fun j => (World.frozen?_setCell _ _ _ _).trans (h.fL j), fun j => (World.frozen?_setCell _ _ _ _).trans (h.fX j), XW.rdSet (p := ⟨Lb, 5, none⟩) h.rd (.inr (.inl rfl)), h.dNL, h.dNX, h.dLX⟩
theorem XW.set6 {W : World} {Nb Lb Xb : Nat} {kk : Int} {s n0 n1 : ByteArray} {nn : Nat} {c0 c1 c2 c3 : Value} {k' : Int} {s' : ByteArray} {x : JV} (h : XW W Nb Lb Xb kk s n0 n1 nn c0 c1 c2 c3 k' s' x)  : XW (W.setCell ⟨Lb, 6, none⟩ (.slice none 0 0)) Nb Lb Xb kk s n0 n1 nn c0 c1 c2 c3 k' s' x := by
  have hsz : (W.setCell ⟨Lb, 6, none⟩ (.slice none 0 0)).heap.size = W.heap.size := by simp [World.setCell]
  exact ⟨(World.cell?_setCell_other _ _ _ _ (fun e => h.dLX (congrArg Addr.block e))).trans h.x0, (World.cell?_setCell_other _ _ _ _ (fun e => h.dLX (congrArg Addr.block e))).trans h.x1, (World.cell?_setCell_other _ _ _ _ (fun e => h.dLX (congrArg Addr.block e))).trans h.x2, (World.cell?_setCell_other _ _ _ _ (fun e => h.dLX (congrArg Addr.block e))).trans h.x3, (World.cell?_setCell_other _ _ _ _ (fun e => h.dNL.symm (congrArg Addr.block e))).trans h.m0, (World.cell?_setCell_other _ _ _ _ (fun e => h.dNL.symm (congrArg Addr.block e))).trans h.m1, (World.cell?_setCell_other _ _ _ _ (fun e => by injection e with _ e; omega)).trans h.l0, (World.cell?_setCell_other _ _ _ _ (fun e => by injection e with _ e; omega)).trans h.l1, (World.cell?_setCell_other _ _ _ _ (fun e => by injection e with _ e; omega)).trans h.l2, (World.cell?_setCell_other _ _ _ _ (fun e => by injection e with _ e; omega)).trans h.l3, (World.cell?_setCell_other _ _ _ _ (fun e => by injection e with _ e; omega)).trans h.l4, (World.cell?_setCell_other _ _ _ _ (fun e => by injection e with _ e; omega)).trans h.l5, World.cell?_setCell_same _ _ _ h.l6, (World.cell?_setCell_other _ _ _ _ (fun e => by injection e with _ e; omega)).trans h.l7, by rw [hsz]; exact h.tN, by rw [hsz]; exact h.tL, by rw [hsz]; exact h.tX, fun j => (World.frozen?_setCell _ _ _ _).trans (h.fN j), fun j => (World.frozen?_setCell _ _ _ _).trans (h.fL j), fun j => (World.frozen?_setCell _ _ _ _).trans (h.fX j), XW.rdSet (p := ⟨Lb, 6, none⟩) h.rd (.inr (.inl rfl)), h.dNL, h.dNX, h.dLX⟩
theorem XW.set7 {W : World} {Nb Lb Xb : Nat} {kk : Int} {s n0 n1 : ByteArray} {nn : Nat} {c0 c1 c2 c3 : Value} {k' : Int} {s' : ByteArray} {x : JV} (h : XW W Nb Lb Xb kk s n0 n1 nn c0 c1 c2 c3 k' s' x)  : XW (W.setCell ⟨Lb, 7, none⟩ (.slice none 0 0)) Nb Lb Xb kk s n0 n1 nn c0 c1 c2 c3 k' s' x := by
  have hsz : (W.setCell ⟨Lb, 7, none⟩ (.slice none 0 0)).heap.size = W.heap.size := by simp [World.setCell]
  exact ⟨(World.cell?_setCell_other _ _ _ _ (fun e => h.dLX (congrArg Addr.block e))).trans h.x0, (World.cell?_setCell_other _ _ _ _ (fun e => h.dLX (congrArg Addr.block e))).trans h.x1, (World.cell?_setCell_other _ _ _ _ (fun e => h.dLX (congrArg Addr.block e))).trans h.x2, (World.cell?_setCell_other _ _ _ _ (fun e => h.dLX (congrArg Addr.block e))).trans h.x3, (World.cell?_setCell_other _ _ _ _ (fun e => h.dNL.symm (congrArg Addr.block e))).trans h.m0, (World.cell?_setCell_other _ _ _ _ (fun e => h.dNL.symm (congrArg Addr.block e))).trans h.m1, (World.cell?_setCell_other _ _ _ _ (fun e => by injection e with _ e; omega)).trans h.l0, (World.cell?_setCell_other _ _ _ _ (fun e => by injection e with _ e; omega)).trans h.l1, (World.cell?_setCell_other _ _ _ _ (fun e => by injection e with _ e; omega)).trans h.l2, (World.cell?_setCell_other _ _ _ _ (fun e => by injection e with _ e; omega)).trans h.l3, (World.cell?_setCell_other _ _ _ _ (fun e => by injection e with _ e; omega)).trans h.l4, (World.cell?_setCell_other _ _ _ _ (fun e => by injection e with _ e; omega)).trans h.l5, (World.cell?_setCell_other _ _ _ _ (fun e => by injection e with _ e; omega)).trans h.l6, World.cell?_setCell_same _ _ _ h.l7, by rw [hsz]; exact h.tN, by rw [hsz]; exact h.tL, by rw [hsz]; exact h.tX, fun j => (World.frozen?_setCell _ _ _ _).trans (h.fN j), fun j => (World.frozen?_setCell _ _ _ _).trans (h.fL j), fun j => (World.frozen?_setCell _ _ _ _).trans (h.fX j), XW.rdSet (p := ⟨Lb, 7, none⟩) h.rd (.inr (.inl rfl)), h.dNL, h.dNX, h.dLX⟩

/-- What it reads as. -/
theorem XW.read {W : World} {Nb Lb Xb : Nat} {kk : Int} {s n0 n1 : ByteArray} {nn : Nat} {c0 c1 c2 c3 : Value} {k' : Int} {s' : ByteArray} {x : JV} (h : XW W Nb Lb Xb kk s n0 n1 nn c0 c1 c2 c3 k' s' x) (ns : List ByteArray) (hn : ns.length = nn) (hns : ∀ (j : Nat) (t : ByteArray), ns[j]? = some t → [n0, n1][j]? = some t)
    (z : s.size ≤ 10 ∧ n0.size ≤ 10 ∧ n1.size ≤ 10 ∧ s'.size ≤ 10) : Rd W W.heap.size 6 (.mk kk s ns [x, .mk k' s' [] []]) (.agg #[.int .i64 kk, .string s, .slice (some ⟨Nb, 0, none⟩) nn 2, .slice (some ⟨Lb, 0, none⟩) 2 2]) := by
  obtain ⟨z1, z2, z3, z4⟩ := z
  have hl2 : ns.length ≤ 2 := by
    by_cases hh : ns.length ≤ 2
    · exact hh
    · have := hns 2 _ (List.getElem?_eq_getElem (by omega))
      simp at this
  subst hn
  refine ⟨some ⟨Nb, 0, none⟩, 2, some ⟨Lb, 0, none⟩, 2, rfl, ⟨Nat.le_trans z1 (by decide), by show ns.length ≤ _; omega, by show 2 ≤ 2000000; decide, hl2, Nat.le_refl _⟩, fun _ => ⟨Nb, 0, rfl, h.tN, fun j t ht => ?_⟩, fun _ => ⟨Lb, 0, rfl, h.tL, fun i y hy => ?_⟩⟩
  · have h1 := hns j t ht
    match j, h1 with
    | 0, h1 => simp at h1; subst h1; exact ⟨Nat.le_trans z2 (by decide), h.m0⟩
    | 1, h1 => simp at h1; subst h1; exact ⟨Nat.le_trans z3 (by decide), h.m1⟩
  · match i, hy with
    | 0, hy =>
      have hy' : x = y := Option.some.inj hy
      subst hy'
      exact ⟨c0, c1, c2, c3, ⟨h.l0, h.l1, h.l2, h.l3⟩, h.rd.toB fun b hd => hd.1⟩
    | 1, hy =>
      have hy' : JV.mk k' s' [] [] = y := Option.some.inj hy
      subst hy'
      exact ⟨_, _, _, _, ⟨h.l4, h.l5, h.l6, h.l7⟩, none, 0, none, 0, rfl, ⟨Nat.le_trans z4 (by decide), Nat.zero_le _, Nat.zero_le _, Nat.le_refl _, Nat.le_refl _⟩, fun hp => absurd hp (Nat.not_lt_zero _), fun hp => absurd hp (Nat.not_lt_zero _)⟩

theorem bad255 : Lib.validD [255] = false := by
  rw [Lib.validD_step _ (by simp)]
  have : Lib.decodeL [255] = (65533, 1) := by
    rw [Lib.decodeL_N]
    decide
  rw [this]
  rfl
theorem val98 : Lib.validD [98] = true := by rw [Lib.validD_cons _ _ (by decide)]; rfl

theorem chk_null (d : Nat) : chkAt (d + 1) (.mk 1 ⟨#[]⟩ [] []) = true := rfl
theorem chk_two {k' : Int} {s' : ByteArray} {x : JV} {kk : Int} {s : ByteArray} {ns : List ByteArray} : chkAt 12 (.mk kk s ns [x, .mk k' s' [] []]) = (selfB (.mk kk s ns [x, .mk k' s' [] []]) && (chkAt 11 x && (selfB (.mk k' s' [] []) && true && true))) := rfl

theorem ok_x (x : JV) (h : chkAt 11 x = true) : chkAt 12 (.mk 8 ⟨#[]⟩ [⟨#[97]⟩, ⟨#[98]⟩] [x, .mk 1 ⟨#[]⟩ [] []]) = true := by
  rw [chk_two, h, self_obj rfl]
  show (true && true && nmGo [] [[97], [98]] && _) = true
  have : nmGo [] [[97], [98]] = true := by
    simp only [nmGo, ex_valid, val98]
    decide
  rw [this]
  rfl
theorem no_0 (x : JV) : chkAt 12 (.mk 8 ⟨#[]⟩ [⟨#[97]⟩, ⟨#[97]⟩] [x, .mk 1 ⟨#[]⟩ [] []]) = false := by
  rw [chk_two, self_obj rfl]
  show (true && true && nmGo [] [[97], [97]] && _) = false
  have : nmGo [] [[97], [97]] = false := by
    simp only [nmGo, ex_valid]
    decide
  rw [this]
  rfl
theorem no_1 (x : JV) : chkAt 12 (.mk 8 ⟨#[]⟩ [⟨#[97]⟩] [x, .mk 1 ⟨#[]⟩ [] []]) = false := by
  rw [chk_two, self_obj rfl]
  rfl
theorem no_2 (x : JV) : chkAt 12 (.mk 8 ⟨#[120]⟩ [⟨#[97]⟩, ⟨#[98]⟩] [x, .mk 1 ⟨#[]⟩ [] []]) = false := by
  rw [chk_two, self_obj rfl]
  rfl
theorem no_leaf (x : JV) (k' : Int) (s' : ByteArray) (h : selfB (.mk k' s' [] []) = false) : chkAt 12 (.mk 8 ⟨#[]⟩ [⟨#[97]⟩, ⟨#[98]⟩] [x, .mk k' s' [] []]) = false := by
  rw [chk_two, h]
  simp
theorem no_3 : selfB (.mk 6 ⟨#[]⟩ [] []) = false := rfl
theorem no_4 : selfB (.mk 3 ⟨#[49, 46, 53]⟩ [] []) = false := by
  rw [self_leaf (by decide) (by decide)]
  show (true && true && leafB 3 [49, 46, 53]) = false
  decide
theorem no_5 : selfB (.mk 2 ⟨#[121, 101, 115]⟩ [] []) = false := rfl
theorem no_6 : selfB (.mk 5 ⟨#[255]⟩ [] []) = false := by
  rw [self_leaf (by decide) (by decide)]
  show (true && true && Lib.validD [255]) = false
  rw [bad255]
  rfl
theorem no_7 (x : JV) : chkAt 12 (.mk 8 ⟨#[]⟩ [⟨#[255]⟩, ⟨#[98]⟩] [x, .mk 1 ⟨#[]⟩ [] []]) = false := by
  rw [chk_two, self_obj rfl]
  show (true && true && nmGo [] [[255], [98]] && _) = false
  have : nmGo [] [[255], [98]] = false := by
    simp only [nmGo, bad255]
    decide
  rw [this]
  rfl
theorem no_8 (x : JV) : chkAt 12 (.mk 7 ⟨#[]⟩ [⟨#[97]⟩, ⟨#[98]⟩] [x, .mk 1 ⟨#[]⟩ [] []]) = false := by
  rw [chk_two, self_list rfl]
  rfl

end Go.Proofs.YtkaboegjdalmeaaDoor
