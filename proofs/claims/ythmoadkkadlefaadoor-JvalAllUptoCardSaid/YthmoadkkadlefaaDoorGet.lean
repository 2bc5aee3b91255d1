/-
  What jval.Get answers.
-/
import Derived.Test.YthmoadkkadlefaaDoorCopy3
import Derived.Test.YthmoadkkadlefaaDoorSame
namespace Go.Proofs.YthmoadkkadlefaaDoor
open Go.RowKit

def zeroJ : JV := .mk 0 ⟨#[]⟩ [] []
/-- An object's value of a name. -/
def getJ (x : JV) (name : ByteArray) : Option JV := if x.k = 8 ∧ 0 ≤ Lib.idxOfS x.ns name ∧ Lib.idxOfS x.ns name < x.ps.length then x.ps[(Lib.idxOfS x.ns name).toNat]? else none

def GetIs (n : Nat) (o : Option JV) (w : World) (e : Ending) (w' : World) : Prop := ∃ v', e = .returned (.tuple #[v', .bool o.isSome]) ∧ Rd w' w'.heap.size (n + 1) (o.getD zeroJ) v' ∧ Below w.heap.size w w'

theorem rd_zero (w : World) (B n : Nat) : Rd w B (n + 1) zeroJ (.agg #[.int .i64 0, .string ⟨#[]⟩, .slice none 0 0, .slice none 0 0]) :=
  ⟨none, 0, none, 0, rfl, ⟨Nat.zero_le _, Nat.zero_le _, Nat.zero_le _, Nat.le_refl _, Nat.le_refl _⟩, fun h => absurd h (by decide), fun h => absurd h (by decide)⟩

theorem getIs_none {n : Nat} {o : Option JV} {w w' : World} (ho : o = none) (hb : Below w.heap.size w w') : GetIs n o w (.returned (.tuple #[.agg #[.int .i64 0, .string ⟨#[]⟩, .slice none 0 0, .slice none 0 0], .bool false])) w' := by
  subst ho
  exact ⟨_, rfl, rd_zero _ _ _, hb⟩

theorem index_any (B : Nat) (a : Option Addr) (c : Nat) (ns : List ByteArray) (name : ByteArray) (w : World) (h : Strs w B a ns) (hl : ns.length ≤ 2000000) :
    Calls Tryd.prog 27 #[.slice a ns.length c, .string name] w fun e w' => e = .returned (.int .i64 (Lib.idxOfS ns name)) ∧ w = w' := by
  by_cases hp : 0 < ns.length
  · obtain ⟨b, off, rfl, hc⟩ := strs_cells h hp
    have := Tryd.slices_Index_string b off ns.length c ns name w (Nat.le_refl _) (by omega) hc
    rw [List.take_length] at this
    exact turnW this
  · have e1 : ns = [] := List.eq_nil_of_length_eq_zero (by omega)
    subst e1
    exact turnW (Tryd.slices_Index_string_empty a c name w)

theorem idx_range (ns : List ByteArray) (name : ByteArray) : -1 ≤ Lib.idxOfS ns name ∧ Lib.idxOfS ns name ≤ ns.length := by
  have gen : ∀ (ns : List ByteArray) (i : Nat), -1 ≤ Lib.idxFromS ns name i ∧ Lib.idxFromS ns name i ≤ i + ns.length := by
    intro ns
    induction ns with
    | nil => intro i; simp [Lib.idxFromS]
    | cons z r ih =>
      intro i
      have := ih (i + 1)
      simp only [Lib.idxFromS, List.length_cons]
      split <;> omega
  have := gen ns 0
  unfold Lib.idxOfS
  omega

set_option maxHeartbeats 1000000 in
set_option maxRecDepth 100000 in
theorem get_any (B n : Nat) (x : JV) (v : Value) (name : ByteArray) (w : World) (hB : B ≤ w.heap.size) (hnd : ∀ y ∈ x.ps, nodes n y ≤ 2000000) (h : Rd w B (n + 1) x v) :
    Calls Tryd.prog 11 #[v, .string name] w (GetIs n (getJ x name) w) := by
  obtain ⟨an, cn, ap, cp, rfl, ⟨z1, z2, z3, z4, z5⟩, hs, hr⟩ := h
  have hbA : ∀ o o', Below w.heap.size w ((w.alloc o).alloc o') := fun o o' => ((Below.refl _ w).alloc (Nat.le_refl _) o).alloc (by simp) o'
  by_cases hk : x.k = 8
  · have hk' : (x.k != 8) = false := by simpa using hk
    have HK := Lib.hid hk
    clear hk
    have hq := idx_range x.ns name
    have hix := fun W (hb : Below w.heap.size w W) => index_any B an cn x.ns name W (hs.below (hb.mono hB)) z2
    have HG := Lib.hid (show getJ x name = if 0 ≤ Lib.idxOfS x.ns name ∧ Lib.idxOfS x.ns name < x.ps.length then x.ps[(Lib.idxOfS x.ns name).toNat]? else none by
      unfold getJ
      by_cases h : 0 ≤ Lib.idxOfS x.ns name ∧ Lib.idxOfS x.ns name < x.ps.length
      · rw [if_pos ⟨HK.out, h⟩, if_pos h]
      · rw [if_neg (fun h' => h h'.2), if_neg h])
    generalize Lib.idxOfS x.ns name = q at *
    obtain ⟨hq0, hq1⟩ := hq
    by_cases h0 : q < 0
    · have HN := Lib.hid (show getJ x name = none by rw [HG.out, if_neg (by omega)])
      have d0 : decide (q < 0) = true := by simpa using h0
      go_enter Tryd.func11, Tryd.ntmps11
      go_wp2_with ((go_at_call 27); (refine (hix _ (hbA _ _)).mono ?_); rintro e w1 ⟨rfl, rfl⟩)
      refine bodyPost_ret (v := .tuple #[.agg #[.int .i64 0, .string ⟨#[]⟩, .slice none 0 0, .slice none 0 0], .bool false]) (by simp [results, Tryd.results11, go_sem]) rfl (getIs_none HN.out (hbA _ _))
    · have d0 : decide (q < 0) = false := by simpa using h0
      by_cases h1 : (x.ps.length : Int) ≤ q
      · have HN := Lib.hid (show getJ x name = none by rw [HG.out, if_neg (by omega)])
        have d1 : decide ((x.ps.length : Int) ≤ q) = true := by simpa using h1
        go_enter Tryd.func11, Tryd.ntmps11
        go_wp2_with ((go_at_call 27); (refine (hix _ (hbA _ _)).mono ?_); rintro e w1 ⟨rfl, rfl⟩)
        refine bodyPost_ret (v := .tuple #[.agg #[.int .i64 0, .string ⟨#[]⟩, .slice none 0 0, .slice none 0 0], .bool false]) (by simp [results, Tryd.results11, go_sem]) rfl (getIs_none HN.out (hbA _ _))
      · have d1 : decide ((x.ps.length : Int) ≤ q) = false := by simpa using h1
        obtain ⟨i, rfl⟩ : ∃ i : Nat, q = i := ⟨q.toNat, by omega⟩
        have hlt : i < x.ps.length := by omega
        obtain ⟨b, off, y, an', cn', ap', cp', HY, rfl, hb, hRr, g0, g1, g2, g3⟩ := hr.elem hlt ((hbA (.cells #[.int .i64 x.k, .string x.s, .slice an x.ns.length cn, .slice ap x.ps.length cp] 25) (.cells #[.int .i64 0, .string ⟨#[]⟩, .slice none 0 0, .slice none 0 0] 25)).mono hB)
        have HN := Lib.hid (show getJ x name = some y by
          have e : ((i : Int)).toNat = i := by omega
          rw [HG.out, if_pos (by omega), e, List.getElem?_eq_getElem hlt, HY.out])
        have hnd' : nodes n y ≤ 2000000 := hnd y (by rw [← HY.out]; exact List.getElem_mem hlt)
        clear hnd HY hr hs
        go_enter Tryd.func11, Tryd.ntmps11
        go_wp2_with ((go_at_call 27); (refine (hix _ (hbA _ _)).mono ?_); rintro e w1 ⟨rfl, rfl⟩)
        refine (copyOf_any B n y _ _ (by simp; omega) hnd' hRr).mono ?_
        rintro e w3 ⟨v', rfl, hR3, b3⟩
        obtain ⟨an3, cn3, ap3, cp3, rfl⟩ := hR3.shape
        have hz3 := b3.size
        simp only [World.size_alloc] at hz3
        have hbx : w3.heap[w.heap.size + 1]? = some (.cells #[.int .i64 0, .string ⟨#[]⟩, .slice none 0 0, .slice none 0 0] 25 (0, 0)) := by
          refine (b3.block _ (by simp)).trans ?_
          have := heap_alloc_new (w.alloc (.cells #[.int .i64 x.k, .string x.s, .slice an x.ns.length cn, .slice (some ⟨b, off, none⟩) x.ps.length cp] 25)) (.cells #[.int .i64 0, .string ⟨#[]⟩, .slice none 0 0, .slice none 0 0] 25)
          simpa using this
        have q0 : w3.cell? ⟨w.heap.size + 1, 0, none⟩ = some (.int .i64 0) := Lib.cell_of_heap hbx 0
        have q1 : w3.cell? ⟨w.heap.size + 1, 1, none⟩ = some (.string ⟨#[]⟩) := Lib.cell_of_heap hbx 1
        have q2 : w3.cell? ⟨w.heap.size + 1, 2, none⟩ = some (.slice none 0 0) := Lib.cell_of_heap hbx 2
        have q3 : w3.cell? ⟨w.heap.size + 1, 3, none⟩ = some (.slice none 0 0) := Lib.cell_of_heap hbx 3
        have qf : ∀ j, w3.frozen? ⟨w.heap.size + 1, j, none⟩ = false := fun j => Lib.frozen_of_heap hbx j
        have hb3 : Below w.heap.size w w3 := (hbA _ _).trans (b3.mono (by simp; omega))
        clear hbx b3 hix
        go_wp2_with fail
        refine bodyPost_ret (v := .tuple #[.agg #[.int .i64 y.k, .string y.s, .slice an3 y.ns.length cn3, .slice ap3 y.ps.length cp3], .bool true]) (by simp [results, Tryd.results11, go_sem, q0, q1, q2, q3]) rfl ?_
        rw [HN.out]
        refine ⟨_, rfl, Rd.up (RdD.toB (D := fun b => b < w3.heap.size) (fun b hb => by simpa [World.setCell] using hb) (hR3.step (fun b hd => hd.1) fun b o hd => ?_)), ?_⟩
        · have hne : b ≠ w.heap.size + 1 := fun e => by
            have h1 := hd.2
            simp only [World.size_alloc] at h1
            omega
          rw [World.cell?_setCell_other _ _ _ _ (by intro e; have := congrArg Addr.block e; simp at this; omega), World.cell?_setCell_other _ _ _ _ (by intro e; have := congrArg Addr.block e; simp at this; omega), World.cell?_setCell_other _ _ _ _ (by intro e; have := congrArg Addr.block e; simp at this; omega), World.cell?_setCell_other _ _ _ _ (by intro e; have := congrArg Addr.block e; simp at this; omega)]
        · exact (((hb3.setCell (p := ⟨w.heap.size + 1, 0, none⟩) (by show _ ≤ w.heap.size + 1; omega) _).setCell (p := ⟨w.heap.size + 1, 1, none⟩) (by show _ ≤ w.heap.size + 1; omega) _).setCell (p := ⟨w.heap.size + 1, 2, none⟩) (by show _ ≤ w.heap.size + 1; omega) _).setCell (p := ⟨w.heap.size + 1, 3, none⟩) (by show _ ≤ w.heap.size + 1; omega) _
  · have hk' : (x.k == 8) = false := by simpa using hk
    have hk2 : (x.k != 8) = true := by simpa using hk
    have HG := Lib.hid (show getJ x name = none by unfold getJ; rw [if_neg (fun h => hk h.1)])
    clear hk
    go_enter Tryd.func11, Tryd.ntmps11
    go_wp2_with fail
    refine bodyPost_ret (v := .tuple #[.agg #[.int .i64 0, .string ⟨#[]⟩, .slice none 0 0, .slice none 0 0], .bool false]) (by simp [results, Tryd.results11, go_sem]) rfl (getIs_none HG.out (hbA _ _))

end Go.Proofs.YthmoadkkadlefaaDoor
