/-
  What runes.leastIndent answers.
-/
import Derived.Test.YtibkncgfdhflgaaGreatDoorSmall
import Derived.Test.YtibkncgfdhflgaaGreatDoorIndent
namespace Go.Proofs.YtibkncgfdhflgaaGreatDoor
open Go.RowKit

/-- A row of strings, from place off on in block g. -/
def RowAt (w : World) (g off : Nat) (xs : List ByteArray) : Prop := g < w.heap.size ∧ ∀ i x, xs[i]? = some x → w.cell? ⟨g, off + i, none⟩ = some (.string x)

theorem RowAt.below {w w' : World} {g off : Nat} {xs : List ByteArray} (h : RowAt w g off xs) (hb : Below w.heap.size w w') : RowAt w' g off xs := by
  have hs := hb.size
  have hg := h.1
  refine ⟨by omega, fun i x hx => ?_⟩
  rw [hb.cell (p := ⟨g, off + i, none⟩) hg]
  exact h.2 i x hx


def leastStep (acc : Int) (x : List UInt8) : Int := if indent x < x.length ∧ (acc < 0 ∨ (indent x : Int) < acc) then indent x else acc
def leastF (xs : List (List UInt8)) : Int := xs.foldl leastStep (-1)
def leastI (xs : List (List UInt8)) : Int := if leastF xs < 0 then 0 else leastF xs

theorem leastF_range (xs : List (List UInt8)) (n : Nat) (h : ∀ x ∈ xs, x.length ≤ n) : ∀ acc : Int, -1 ≤ acc → acc ≤ n → -1 ≤ xs.foldl leastStep acc ∧ xs.foldl leastStep acc ≤ n := by
  induction xs with
  | nil => intro acc h0 h1; exact ⟨h0, h1⟩
  | cons x r ih =>
    intro acc h0 h1
    rw [List.foldl_cons]
    have hi := indent_le x
    have hx := h x (by simp)
    refine ih (fun y hy => h y (by simp [hy])) _ ?_ ?_
    · unfold leastStep
      split <;> omega
    · unfold leastStep
      split <;> omega

theorem leastF_snoc (xs : List (List UInt8)) (x : List UInt8) : leastF (xs ++ [x]) = leastStep (leastF xs) x := by
  unfold leastF
  rw [List.foldl_append]
  rfl



set_option maxHeartbeats 1000000 in
theorem leastIndent_any (xs : List ByteArray) (g off cap : Nat) (w : World) (hr : RowAt w g off xs) (hl : xs.length ≤ 1000000000) (hz : ∀ x ∈ xs, x.size ≤ 1000000000) :
    Calls Tryz.prog 118 #[.slice (some ⟨g, off, none⟩) xs.length cap] w fun e w' => e = .returned (.int .i64 (leastI (xs.map bl))) ∧ Below w.heap.size w w' := by
  have hrg : ∀ i, -1 ≤ leastF ((xs.take i).map bl) ∧ leastF ((xs.take i).map bl) ≤ 1000000000 := by
    intro i
    refine leastF_range _ 1000000000 ?_ (-1) (by omega) (by omega)
    intro x hx
    obtain ⟨y, hy, rfl⟩ := List.mem_map.1 hx
    exact hz y (List.mem_of_mem_take hy)
  have HRG := Lib.hid hrg
  have HZ := Lib.hid hz
  clear hrg hz
  go_enter Tryz.func118, Tryz.ntmps118
  go_wp2
  go_loopw [3, 9] (fun a i wr => ∃ (j : Nat) (L : Int), j ≤ xs.length ∧ i = .int .i64 j ∧ a = .int .i64 L ∧ Below w.heap.size w wr ∧ Hid (L = leastF ((xs.take j).map bl))) (fun _ i _ => xs.length - (intOf i).toNat)
  case atStart => exact ⟨0, -1, Nat.zero_le _, rfl, rfl, Below.refl _ _, Lib.hid rfl⟩
  case round =>
    obtain ⟨j, L, hj, rfl, rfl, hbw, HL⟩ := hrel
    have hr2 := hr.below hbw
    have hrj : -1 ≤ L ∧ L ≤ 1000000000 := by rw [HL.out]; exact HRG.out j
    by_cases hlt : j < xs.length
    · obtain ⟨x, hx⟩ : ∃ x, xs[j]? = some x := ⟨xs[j], List.getElem?_eq_getElem hlt⟩
      have hc := hr2.2 j x hx
      have hxs := HZ.out x (List.mem_of_getElem? hx)
      have HN := Lib.hid (show leastF ((xs.take (j + 1)).map bl) = leastStep L (bl x) by rw [take_next xs j x hx, List.map_append, List.map_cons, List.map_nil, leastF_snoc, HL.out])
      have hi := indent_size x
      clear hx
      go_wp2_with fail
      refine (indentOf_any x _).mono ?_
      rintro e w1 ⟨rfl, b1⟩
      have hs1 := hbw.size
      have hbw1 := hbw.trans (b1.mono hs1)
      have HD := Lib.hid (show leastStep L (bl x) = if indent x.data.toList < x.size ∧ (L < 0 ∨ (indent x.data.toList : Int) < L) then (indent x.data.toList : Int) else L from rfl)
      clear hc
      generalize indent x.data.toList = N at *
      by_cases t1 : N < x.size
      · have f1 : decide (N < x.size) = true := by simpa using t1
        by_cases t2 : L < 0
        · have f2 : decide (L < 0) = true := by simpa using t2
          go_wp2_with fail
          go_roundw
          case rel => exact ⟨j + 1, N, by omega, by go_num, rfl, hbw1, Lib.hid (by rw [HN.out, HD.out, if_pos ⟨t1, .inl t2⟩])⟩
          case measure => simp [intOf]; omega
        · have f2 : decide (L < 0) = false := by simpa using t2
          by_cases t3 : (N : Int) < L
          · have f3 : decide ((N : Int) < L) = true := by simpa using t3
            go_wp2_with fail
            go_roundw
            case rel => exact ⟨j + 1, N, by omega, by go_num, rfl, hbw1, Lib.hid (by rw [HN.out, HD.out, if_pos ⟨t1, .inr t3⟩])⟩
            case measure => simp [intOf]; omega
          · have f3 : decide ((N : Int) < L) = false := by simpa using t3
            go_wp2_with fail
            go_roundw
            case rel => exact ⟨j + 1, L, by omega, by go_num, rfl, hbw1, Lib.hid (by rw [HN.out, HD.out, if_neg (by omega)])⟩
            case measure => simp [intOf]; omega
      · have f1 : decide (N < x.size) = false := by simpa using t1
        go_wp2_with fail
        go_roundw
        case rel => exact ⟨j + 1, L, by omega, by go_num, rfl, hbw1, Lib.hid (by rw [HN.out, HD.out, if_neg (by omega)])⟩
        case measure => simp [intOf]; omega
    · have HE := Lib.hid (show leastI (xs.map bl) = max L 0 by
        have e : xs.take j = xs := List.take_of_length_le (by omega)
        have h := HL.out
        rw [e] at h
        unfold leastI
        rw [← h]
        split <;> omega)
      go_wp2_with fail
      go_ret
      exact ⟨ret_int64 (by rw [HE.out]), hbw⟩

end Go.Proofs.YtibkncgfdhflgaaGreatDoor
