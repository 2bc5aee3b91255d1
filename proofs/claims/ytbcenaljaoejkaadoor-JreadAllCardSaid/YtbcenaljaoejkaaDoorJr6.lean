/-
  jread's reader: a list.
-/
import Derived.Test.YtbcenaljaoejkaaDoorJr5
import Derived.Deep.RegionLaw
import Derived.Deep.AppendLies
namespace Go.Proofs.YtbcenaljaoejkaaDoor
open Go.RowKit

/-- What value, list and object answer: a value that reads as x, in new blocks; or no text. -/
def VIs (R : Nat) (s : ByteArray) (n : Nat) (w : World) (o : Option PR) (e : Ending) (w' : World) : Prop :=
  match o with
  | none => Bad R w e w'
  | some (x, r, d, t) => ∃ v, e = .returned v ∧ RdD w' (fun b => w.heap.size ≤ b ∧ b < w'.heap.size) n x v ∧ Now R s d t w r w'

/-- A region ends there. -/
theorem viaAny {P : Program} {X : Prop} (md : Region.Mode) (a : Act) (w : World) (h : wpAny P md (List.toArray []) (fun _ _ _ => X) 0 #[] a w) : X := h.2

theorem Aw2.ofAw {R n : Nat} {w w' : World} (h : Aw R n w w') (M : Nat) : Aw2 R M n w w' := ⟨h.os, h.tape, h.output, h.size, fun k hk hr _ => h.block k hk hr⟩
theorem Aw2.drew {R M n : Nat} {w w' : World} (h : Aw2 R M n w w') : Aw2 R M n w w'.drew := ⟨h.os, h.tape, h.output, h.size, h.block⟩

theorem cell_four_new (w : World) (c0 c1 c2 c3 : Value) (t : TypeId) : ∀ j u, [c0, c1, c2, c3][j]? = some u → (w.alloc (.cells #[c0, c1, c2, c3] t)).cell? ((⟨w.heap.size, 0, none⟩ : Addr).add j) = some u := by
  intro j u hj
  rw [Go.WideShapes.add_plain, Nat.zero_add]
  have hb : (w.alloc (.cells #[c0, c1, c2, c3] t)).heap[w.heap.size]? = some (.cells #[c0, c1, c2, c3] t (0, 0)) := heap_alloc_new _ _
  rw [Lib.cell_of_heap hb j]
  rw [← hj, ← Array.getElem?_toList]
theorem four_one (k : Int) (s : ByteArray) (an : Option Addr) (n cn : Nat) (ap : Option Addr) (m cp : Nat) : ∀ u ∈ [Value.int .i64 k, .string s, .slice an n cn, .slice ap m cp], u.oneCell' = true := by
  intro u hu
  simp at hu
  rcases hu with rfl | rfl | rfl | rfl <;> rfl

theorem jst_init (w W : World) (R M : Nat) (kk : Int) (dd : Nat) (hR : R < w.heap.size) (hM : M = R ∨ w.heap.size + 2 ≤ M) (ha : Aw R (w.heap.size + 2) ((w.alloc (.cells #[.int .i64 0, .string ⟨#[]⟩, .slice none 0 0, .slice none 0 0] 26)).alloc (.cells #[.int .i64 kk, .string ⟨#[]⟩, .slice none 0 0, .slice none 0 0] 26)) W) :
    JSt w R M kk dd [] [] [] (.slice none 0 0) (.slice none 0 0) W := by
  obtain ⟨W0, hW⟩ : ∃ W0, W0 = ((w.alloc (.cells #[.int .i64 0, .string ⟨#[]⟩, .slice none 0 0, .slice none 0 0] 26)).alloc (.cells #[.int .i64 kk, .string ⟨#[]⟩, .slice none 0 0, .slice none 0 0] 26)) := ⟨_, rfl⟩
  rw [← hW] at ha
  have hb : Below w.heap.size w W0 := by
    rw [hW]
    exact ((Below.refl _ w).alloc (Nat.le_refl _) _).alloc (by simp) _
  have hs : W0.heap.size = w.heap.size + 2 := by rw [hW]; simp
  have c1 : ∀ j, W.cell? ⟨w.heap.size + 1, j, none⟩ = (#[Value.int .i64 kk, .string ⟨#[]⟩, .slice none 0 0, .slice none 0 0] : Array Value)[j]? := fun j => by
    rw [ha.cell (by omega) (by omega), hW]; go_simp
  have f1 : ∀ j, W.frozen? ⟨w.heap.size + 1, j, none⟩ = false := fun j => by
    rw [ha.frozen (by omega) (by omega), hW]; go_simp
  have hx : Bx W0 w.heap.size := by
    rw [hW]
    exact (Bx.new w).keep (Below.heap_alloc _ _ _ (by simp))
  refine ⟨(Aw.of hb).trans (ha.mono (by omega)), by have := ha.size; omega, c1 0, c1 1, c1 2, c1 3, f1, hx.keep (ha.block _ (by omega) (by omega)), World.ownsRow_nil _ _ _ _, World.ownsRow_nil _ _ _ _, (fun g e => by cases e), (fun i x hx => by simp at hx), hM, (fun e => by cases e), (fun e => by cases e)⟩

/-- What comes out of a list or an object: its value lies in new blocks. -/
theorem JSt.done {w W : World} {R M : Nat} {kk : Int} {dd : Nat} {ns : List ByteArray} {xs : List JV} {cs : List Value} {vN vL : Value} (h : JSt w R M kk dd ns xs cs vN vL W) (hx : xs.length ≤ 4000) (hn : ns.length ≤ 4000) (hz : ∀ m ∈ ns, m.size ≤ 16000) (W' : World)
    (hc : ∀ b o, b ≠ w.heap.size → W'.cell? ⟨b, o, none⟩ = W.cell? ⟨b, o, none⟩) (hsz : W'.heap.size = W.heap.size) :
    RdD W' (fun b => w.heap.size ≤ b ∧ b < W'.heap.size) (dd + 1) (.mk kk e0 ns xs) (.agg #[.int .i64 kk, .string ⟨#[]⟩, vN, vL]) := by
  have hs := h.sz
  obtain ⟨aN, cN, rfl, hcN, hN⟩ := fresh_row h.oN
  obtain ⟨aL, cL, rfl, hcL, hL⟩ := fresh_row h.oL
  have hcl : cs.length = xs.length * 4 := h.oL.1
  refine ⟨aN, cN, aL, cL, rfl, ⟨Nat.zero_le _, by show ns.length ≤ _; omega, by show xs.length ≤ _; omega, hcN, hcL⟩, fun hp => ?_, fun hp => ?_⟩
  · obtain ⟨g, rfl, hg1, hg2, _, hg3⟩ := hN hp
    refine ⟨g, 0, rfl, ⟨by omega, by omega⟩, fun j s hj => ?_⟩
    have hlt : j < ns.length := (List.getElem?_eq_some_iff.1 hj).1
    refine ⟨Nat.le_trans (hz s (List.mem_of_getElem? hj)) (by decide), ?_⟩
    rw [hc g _ (by omega), Nat.zero_add, hg3 j (by omega), List.getElem?_map]
    have hj' : ns[j]? = some s := hj
    rw [hj']; rfl
  · obtain ⟨g, rfl, hg1, hg2, _, hg3⟩ := hL hp
    refine ⟨g, 0, rfl, ⟨by omega, by omega⟩, fun i x hx => ?_⟩
    have hlt : i < xs.length := (List.getElem?_eq_some_iff.1 hx).1
    obtain ⟨d0, d1, d2, d3, h0, h1, h2, h3, hR⟩ := h.rd i x hx
    have hat : ∀ k u, k < 4 → cs[i * 4 + k]? = some u → W'.cell? ⟨g, 0 + i * 4 + k, none⟩ = some u := fun k u hk hu => by
      rw [hc g _ (by omega), Nat.zero_add, hg3 (i * 4 + k) (by omega)]
      exact hu
    exact ⟨d0, d1, d2, d3, ⟨hat 0 d0 (by omega) h0, hat 1 d1 (by omega) h1, hat 2 d2 (by omega) h2, hat 3 d3 (by omega) h3⟩, RdD.step (fun b hd => ⟨by have := hd.1; omega, by rw [hsz]; exact hd.2.1⟩) (fun b o hd => hc b o (by have := hd.1; omega)) hR⟩

theorem JSt.boxL {w W W' : World} {R M : Nat} {kk : Int} {dd : Nat} {ns : List ByteArray} {xs : List JV} {cs : List Value} {vN vL : Value} (h : JSt w R M kk dd ns xs cs vN vL W) (hg : W.grownBy W' vL.ownBlock) :
    (∀ o, W'.cell? ⟨w.heap.size + 1, o, none⟩ = W.cell? ⟨w.heap.size + 1, o, none⟩) ∧ ∀ o, W'.frozen? ⟨w.heap.size + 1, o, none⟩ = false := by
  have hs := h.sz
  have hblk : W'.heap[w.heap.size + 1]? = W.heap[w.heap.size + 1]? := hg.block _ (by omega) (fun e => by
    have := (h.oL.lt (w.heap.size + 1) (by first | exact e | exact e.symm)).1; omega)
  exact ⟨fun o => World.cell?_of_block (a := ⟨w.heap.size + 1, o, none⟩) hblk, fun o => (World.frozen?_of_block (a := ⟨w.heap.size + 1, o, none⟩) hblk).trans (h.bf o)⟩
theorem JSt.boxN {w W W' : World} {R M : Nat} {kk : Int} {dd : Nat} {ns : List ByteArray} {xs : List JV} {cs : List Value} {vN vL : Value} (h : JSt w R M kk dd ns xs cs vN vL W) (hg : W.grownBy W' vN.ownBlock) :
    (∀ o, W'.cell? ⟨w.heap.size + 1, o, none⟩ = W.cell? ⟨w.heap.size + 1, o, none⟩) ∧ ∀ o, W'.frozen? ⟨w.heap.size + 1, o, none⟩ = false := by
  have hs := h.sz
  have hblk : W'.heap[w.heap.size + 1]? = W.heap[w.heap.size + 1]? := hg.block _ (by omega) (fun e => by
    have := (h.oN.lt (w.heap.size + 1) (by first | exact e | exact e.symm)).1; omega)
  exact ⟨fun o => World.cell?_of_block (a := ⟨w.heap.size + 1, o, none⟩) hblk, fun o => (World.frozen?_of_block (a := ⟨w.heap.size + 1, o, none⟩) hblk).trans (h.bf o)⟩

end Go.Proofs.YtbcenaljaoejkaaDoor
