/-
  What runes.joinLines answers.
-/
import Derived.Test.YtibkncgfdhflgaaGreatDoorTrim
namespace Go.Proofs.YtibkncgfdhflgaaGreatDoor
open Go.RowKit

def joinB : List (List UInt8) → List UInt8
  | [] => []
  | x :: r => x ++ r.flatMap fun y => 10 :: y

theorem joinB_snoc (xs : List (List UInt8)) (x : List UInt8) : joinB (xs ++ [x]) = joinB xs ++ ((if xs.length = 0 then [] else [10]) ++ x) := by
  cases xs with
  | nil => simp [joinB]
  | cons a r => simp [joinB]

theorem joinB_take_le (xs : List (List UInt8)) (j : Nat) : (joinB (xs.take j)).length ≤ (joinB xs).length := by
  cases xs with
  | nil => simp
  | cons a r =>
    cases j with
    | zero => simp [joinB]
    | succ j =>
      rw [List.take_succ_cons]
      simp only [joinB, List.length_append]
      have h : ((r.take j).flatMap fun y => 10 :: y).length ≤ (r.flatMap fun y => 10 :: y).length := by
        conv => rhs; rw [← List.take_append_drop j r, List.flatMap_append, List.length_append]
        omega
      omega

theorem strCells_bytes (x : ByteArray) : Lib.strCells x = Lib.byteCells (bl x) := rfl

set_option maxHeartbeats 1000000 in
theorem joinLines_any (xs : List ByteArray) (g : Nat) (v : Value) (w : World) (hv : SliceOf w g v xs) (hl : xs.length ≤ 1000000000) (hj : (joinB (xs.map bl)).length ≤ 1000000000000) :
    Calls Tryz.prog 120 #[v] w (StrBelow w (joinB (xs.map bl))) := by
  obtain ⟨off, cap, rfl, hcap, hcm, hr⟩ := hv
  unfold maxLen at hcm
  have HB := Bld.fresh 137 [] w
  have hbA : Below w.heap.size w (w.alloc (.cells #[.pointer none, .slice none 0 0] 137)) := (Below.refl _ w).alloc (Nat.le_refl _) _
  have hgl := hr.1
  go_enter Tryz.func120, Tryz.ntmps120
  go_wp2_with fail
  go_loopw [8] (fun i wr => ∃ (j : Nat) (acc : List UInt8), j ≤ xs.length ∧ i = .int .i64 j ∧ Bld 137 w.heap.size w.heap.size [] (Lib.byteCells acc) wr ∧ Below w.heap.size w wr ∧ Hid (acc = joinB ((xs.map bl).take j))) (fun i _ => xs.length - (intOf i).toNat)
  case atStart => exact ⟨0, [], Nat.zero_le _, rfl, HB, hbA, Lib.hid rfl⟩
  case round =>
    obtain ⟨j, acc, hjl, rfl, hB, hbw, HA⟩ := hrel
    clear HB hbA
    have hlt := hB.lt
    have hr2 := hr.below hbw
    by_cases hlt2 : j < xs.length
    · obtain ⟨x, hx⟩ : ∃ x, xs[j]? = some x := ⟨xs[j], List.getElem?_eq_getElem hlt2⟩
      have hc := hr2.2 j x hx
      have HN := Lib.hid (show joinB ((xs.map bl).take (j + 1)) = acc ++ ((if j = 0 then [] else [10]) ++ bl x) by
        rw [take_next (xs.map bl) j (bl x) (by rw [List.getElem?_map, hx]; rfl), joinB_snoc, ← HA.out]
        have : ((xs.map bl).take j).length = j := by rw [List.length_take, List.length_map]; omega
        rw [this])
      have hjt2 : acc.length + (if j = 0 then 0 else 1) + x.size ≤ 1000000000000 := by
        have h := joinB_take_le (xs.map bl) (j + 1)
        rw [HN.out, List.length_append, List.length_append] at h
        have hxl : (bl x).length = x.size := rfl
        split at h
        · rename_i h0; rw [if_pos h0]; simp at h; omega
        · rename_i h0; rw [if_neg h0]; simp at h; omega
      clear hx
      by_cases hj0 : j = 0
      · subst hj0
        have hc0 : wr.cell? ⟨g, off, none⟩ = some (.string x) := hc
        rw [if_pos rfl] at hjt2
        clear hc
        go_wp2_with fail
        refine (writeString_any x Fit.plain hB (by rw [Lib.byteCells_length]; omega) (by omega)).mono ?_
        rintro e w1 ⟨rfl, h1, b1, k1⟩
        go_wp2_with fail
        go_roundw
        case rel => exact ⟨1, acc ++ bl x, by omega, rfl, by rw [Lib.byteCells_append]; exact h1, hbw.trans b1, Lib.hid (by rw [HN.out]; rfl)⟩
        case measure => simp [intOf]; omega
      · have f0 : decide ((0 : Int) < (j : Int)) = true := by simp; omega
        have HJ := Lib.hid hj0
        rw [if_neg hj0] at hjt2
        go_wp2_with fail
        refine (writeByte_any 10 Fit.plain hB (by rw [Lib.byteCells_length]; omega) (by omega)).mono ?_
        rintro e w1 ⟨rfl, h1, b1, k1⟩
        have hs1 := b1.size
        go_wp2_with fail
        refine (writeString_any x Fit.plain h1 (by simp [Lib.byteCells_length]; omega) (by omega)).mono ?_
        rintro e w2 ⟨rfl, h2, b2, k2⟩
        go_wp2_with fail
        go_roundw
        case rel =>
          refine ⟨j + 1, acc ++ ([10] ++ bl x), by omega, by go_num, ?_, (hbw.trans b1).trans b2, Lib.hid (by rw [HN.out, if_neg HJ.out])⟩
          rw [Lib.byteCells_append, Lib.byteCells_append, ← List.append_assoc]
          exact h2
        case measure => simp [intOf]; omega
    · go_wp2_with fail
      refine (string_any acc hB (by omega)).mono ?_
      rintro e w1 ⟨rfl, b1⟩
      go_wp2_with fail
      go_ret
      refine strBelow_mk ?_ (hbw.trans b1)
      rw [HA.out, List.take_of_length_le (by rw [List.length_map]; omega)]

end Go.Proofs.YtibkncgfdhflgaaGreatDoor
