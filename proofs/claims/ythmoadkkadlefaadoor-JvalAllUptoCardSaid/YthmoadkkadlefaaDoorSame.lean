/-
  What jval.sameSelf answers.
-/
import Derived.Test.YthmoadkkadlefaaDoorChk
import Derived.WalkSmall
namespace Go.Proofs.YthmoadkkadlefaaDoor
open Go.RowKit

theorem getD_of (ns : List ByteArray) (j : Nat) (h : j < ns.length) : ns.getD j ByteArray.empty = ns[j] := by
  rw [List.getD_eq_getElem?_getD, List.getElem?_eq_getElem h]; rfl

theorem strs_cells {w : World} {B : Nat} {a : Option Addr} {ns : List ByteArray} (h : Strs w B a ns) (hp : 0 < ns.length) :
    ∃ b off, a = some ⟨b, off, none⟩ ∧ ∀ j, j < ns.length → w.cell? ⟨b, off + j, none⟩ = some (.string (ns.getD j ByteArray.empty)) := by
  obtain ⟨b, off, e, _, hc⟩ := h hp
  exact ⟨b, off, e, fun j hj => by rw [getD_of ns j hj]; exact (hc j _ (List.getElem?_eq_getElem hj)).2⟩

theorem equal_any (B : Nat) (a a' : Option Addr) (c c' : Nat) (ns ns' : List ByteArray) (w : World) (h : Strs w B a ns) (h' : Strs w B a' ns') (hl : ns.length ≤ 2000000) (hl' : ns'.length ≤ 2000000) :
    Calls Tryd.prog 49 #[.slice a ns.length c, .slice a' ns'.length c'] w fun e w' => e = .returned (.bool (decide (ns = ns'))) ∧ ∃ q, w' = w.drewN q := by
  by_cases hn : ns.length = ns'.length
  · by_cases hp : 0 < ns.length
    · obtain ⟨b, off, rfl, hc⟩ := strs_cells h hp
      obtain ⟨b', off', rfl, hc'⟩ := strs_cells h' (by omega)
      have := Tryd.slices_Equal_string b off ns.length c b' off' ns'.length c' ns ns' w (Nat.le_refl _) (Nat.le_refl _) (by omega) (by omega) hc hc'
      rw [List.take_length, List.take_length] at this
      exact this
    · have e1 : ns = [] := List.eq_nil_of_length_eq_zero (by omega)
      have e2 : ns' = [] := List.eq_nil_of_length_eq_zero (by omega)
      subst e1 e2
      refine (Tryd.slices_Equal_string_empty a a' c 0 c' w (by omega)).mono ?_
      rintro e w' ⟨rfl, rfl⟩
      exact ⟨rfl, 0, rfl⟩
  · refine (Tryd.slices_Equal_string_lens a a' ns.length c ns'.length c' w hn).mono ?_
    rintro e w' ⟨rfl, rfl⟩
    exact ⟨by rw [decide_eq_false]; intro e; exact hn (by rw [e]), 0, rfl⟩

/-- Two values alike but for their parts, which are as many. -/
def selfSame (x y : JV) : Bool := decide (x.k = y.k) && (decide (x.s = y.s) && (decide (x.ns = y.ns) && decide (x.ps.length = y.ps.length)))

theorem toList_eq (s t : ByteArray) : (s.toList = t.toList) = (s = t) := by
  rw [Lib.toList_data, Lib.toList_data]
  exact propext ⟨fun h => vbl_inj h, fun h => by rw [h]⟩

set_option maxHeartbeats 1000000 in
set_option maxRecDepth 100000 in
theorem sameSelf_any (B n n' : Nat) (x y : JV) (v u : Value) (w : World) (hB : B ≤ w.heap.size) (h : Rd w B n x v) (h' : Rd w B n' y u) :
    Calls Tryd.prog 34 #[v, u] w (BoolBelow (selfSame x y) w) := by
  match n, h, n', h' with
  | n + 1, h, n' + 1, h' =>
  obtain ⟨an, cn, ap, cp, rfl, ⟨z1, z2, z3, z4, z5⟩, hs, hr⟩ := h
  obtain ⟨an', cn', ap', cp', rfl, ⟨y1, y2, y3, y4, y5⟩, hs', hr'⟩ := h'
  have hbA : ∀ o o', Below w.heap.size w ((w.alloc o).alloc o') := fun o o' => ((Below.refl _ w).alloc (Nat.le_refl _) o).alloc (by simp) o'
  clear hr hr'
  by_cases hk : x.k = y.k
  · have hk' : (x.k == y.k) = true := by simpa using hk
    have HK := Lib.hid hk
    clear hk
    by_cases hS : x.s = y.s
    · have HS := Lib.hid hS
      have hq : (x.s.toList == y.s.toList) = true := by rw [hS]; simp
      clear hS
      have heq := fun W (hb : Below w.heap.size w W) => equal_any B an an' cn cn' x.ns y.ns W (hs.below (hb.mono hB)) (hs'.below (hb.mono hB)) z2 y2
      by_cases hN : x.ns = y.ns
      · have HN := Lib.hid hN
        have heq' : ∀ W (hb : Below w.heap.size w W), Calls Tryd.prog 49 #[.slice an x.ns.length cn, .slice an' y.ns.length cn'] W fun e w' => e = .returned (.bool true) ∧ ∃ q, w' = W.drewN q := fun W hb => by
          have := heq W hb; rw [decide_eq_true hN] at this; exact this
        clear heq hN
        have HF := Lib.hid (show ((x.ps.length : Int) == (y.ps.length : Int)) = selfSame x y by
          unfold selfSame
          rw [decide_eq_true HK.out, decide_eq_true HS.out, decide_eq_true HN.out, Bool.eq_iff_iff]
          simp
          omega)
        go_enter Tryd.func34, Tryd.ntmps34
        go_wp2_with fail
        refine (heq' _ (hbA _ _)).mono ?_
        rintro e w' ⟨rfl, q, rfl⟩
        go_wp2_with fail
        go_ret
        exact boolBelow_of HF.out (below_drewN (hbA _ _) q)
      · have heq' : ∀ W (hb : Below w.heap.size w W), Calls Tryd.prog 49 #[.slice an x.ns.length cn, .slice an' y.ns.length cn'] W fun e w' => e = .returned (.bool false) ∧ ∃ q, w' = W.drewN q := fun W hb => by
          have := heq W hb; rw [decide_eq_false hN] at this; exact this
        have HF := Lib.hid (show false = selfSame x y by
          unfold selfSame
          rw [decide_eq_false hN, Bool.false_and, Bool.and_false, Bool.and_false])
        clear heq hN
        go_enter Tryd.func34, Tryd.ntmps34
        go_wp2_with fail
        refine (heq' _ (hbA _ _)).mono ?_
        rintro e w' ⟨rfl, q, rfl⟩
        go_wp2_with fail
        go_ret
        exact boolBelow_of HF.out (below_drewN (hbA _ _) q)
    · have hq : (x.s.toList == y.s.toList) = false := by rw [beq_eq_false_iff_ne, ne_eq, toList_eq]; exact hS
      have HF := Lib.hid (show false = selfSame x y by
        unfold selfSame
        rw [decide_eq_false hS, Bool.false_and, Bool.and_false])
      clear hS
      go_enter Tryd.func34, Tryd.ntmps34
      go_wp2_with fail
      go_ret
      exact boolBelow_of HF.out (hbA _ _)
  · have hk' : (x.k == y.k) = false := by simpa using hk
    have HF := Lib.hid (show false = selfSame x y by
      unfold selfSame
      rw [decide_eq_false hk, Bool.false_and])
    clear hk
    go_enter Tryd.func34, Tryd.ntmps34
    go_wp2_with fail
    go_ret
    exact boolBelow_of HF.out (hbA _ _)

end Go.Proofs.YthmoadkkadlefaaDoor
