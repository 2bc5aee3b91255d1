/-
  Small facts: bytes of a string, string of bytes.
-/
import Derived.Test.YtibkncgfdhflgaaGreatDoorLet0
import Derived.IntWalk
import Derived.Deep.QuietTactic
import Derived.Deep.RegionWith
import Derived.BigQuiet
namespace Go.Proofs.YtibkncgfdhflgaaGreatDoor
open Go.RowKit

theorem foldl_push (ns : List Int) : ∀ s : ByteArray, ns.foldl (fun r n => r.push (UInt8.ofNat n.toNat)) s = ⟨(s.data.toList ++ ns.map fun n => UInt8.ofNat n.toNat).toArray⟩ := by
  induction ns with
  | nil => intro s; simp
  | cons n r ih =>
    intro s
    rw [List.foldl_cons, ih]
    simp [ByteArray.push]

/-- string of a slice of bytes. -/
theorem conv_bytes (w : World) (a : Addr) (ns : List Int) (cap : Nat) (h : ∀ j v, (ns.map (Value.int .u8))[j]? = some v → w.cell? (a.add j) = some v) :
    (convert 135 9 (.slice (some a) ns.length cap)).run Tryz.prog w = .ok (.string ⟨(ns.map fun n => UInt8.ofNat n.toNat).toArray⟩) w := by
  rw [run_convert_bytes_string _ _ _ 5 _ _ _ Tryz.underlying135 Tryz.underlying5 Tryz.underlying9]
  have e := run_loadCells_list (P := Tryz.prog) (w := w) a (ns.map (Value.int .u8)) h
  rw [List.length_map] at e
  rw [run_bytesToString _ _ _ _ ns e, foldl_push]
  rfl

theorem conv_one (w : World) (c : Int) : (convert 135 9 (.slice (some ⟨w.heap.size, 0, none⟩) 1 1)).run Tryz.prog (w.alloc (.cells #[.int .u8 c] 5)) = .ok (.string ⟨#[UInt8.ofNat c.toNat]⟩) (w.alloc (.cells #[.int .u8 c] 5)) := by
  have := conv_bytes (w.alloc (.cells #[.int .u8 c] 5)) ⟨w.heap.size, 0, none⟩ [c] 1 (cell_one_new _ _ _)
  simpa using this

theorem app_list (a b : ByteArray) : (a ++ b).data.toList = a.data.toList ++ b.data.toList := by
  rw [ByteArray.data_append]; simp

def bl (x : ByteArray) : List UInt8 := x.data.toList
theorem ext_one (H : ByteArray) (d : Nat) (h : d < H.size) : (H.extract d (d + 1)).data.toList = [H[d]] := by
  rw [Lib.extract_data, drop_cons H d h]
  simp

theorem take_next {α : Type} (xs : List α) (i : Nat) (x : α) (h : xs[i]? = some x) : xs.take (i + 1) = xs.take i ++ [x] := by
  obtain ⟨hl, e⟩ := List.getElem?_eq_some_iff.1 h
  rw [List.take_succ_eq_append_getElem hl, e]

theorem two_list (x y : UInt8) : ((⟨#[x]⟩ : ByteArray) ++ ⟨#[y]⟩).data.toList = [x, y] := by
  rw [ByteArray.data_append]
  rfl

end Go.Proofs.YtibkncgfdhflgaaGreatDoor
