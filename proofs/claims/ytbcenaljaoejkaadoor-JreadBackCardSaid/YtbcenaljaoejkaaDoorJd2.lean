/-
  JreadDeep: for every input it answers true.
-/
import Derived.Test.YtbcenaljaoejkaaDoorJd
import Derived.Deep.OwnRows
namespace Go.Proofs.YtbcenaljaoejkaaDoor
open Go.RowKit

theorem rem_nat2 (v n : Int) (hn : 0 < n) : ∃ u : Nat, v % n = (u : Int) ∧ (u : Int) < n := ⟨(v % n).toNat, by have := Int.emod_nonneg v (show n ≠ 0 by omega); omega, by have := Int.emod_lt_of_pos v hn; have := Int.emod_nonneg v (show n ≠ 0 by omega); omega⟩

/-- What Read answers where the error is known. -/
theorem read_code {s : ByteArray} {c : Nat} (h : (readP s.data.toList).2 = c) (w : World) : Calls Tryd.prog 8 #[.string s] w fun e w' => Below w.heap.size w w' ∧ ∃ k z a n cc a' n' cc', e = .returned (.tuple #[.agg #[.int .i64 k, .string z, .slice a n cc, .slice a' n' cc'], .int .i64 c]) := by
  have := read_any s w
  cases ho : readP s.data.toList with
  | mk o c' =>
  rw [ho] at this h
  obtain rfl : c' = c := h
  refine this.mono ?_
  rintro e w' ⟨hb, v, rfl, hv⟩
  refine ⟨hb, ?_⟩
  cases o with
  | none =>
    obtain rfl : v = leaf 0 ⟨#[]⟩ := hv
    exact ⟨_, _, _, _, _, _, _, _, rfl⟩
  | some x =>
    obtain ⟨an, cn, ap, cp, e⟩ := RdD.shape hv
    subst e
    exact ⟨_, _, _, _, _, _, _, _, rfl⟩

theorem infoU8 : (Tryd.prog.info? 5).map (fun i => (i.zero, i.size, i.bytes)) = some (some (.int .u8 0), 1, 1) := by kernel_rfl

theorem slice_to (s : ByteArray) (b : Nat) (h : b ≤ s.size) (w : World) : (Instr.slice 9 (.string s) none (some (.int .i64 (b : Nat))) none).run Tryd.prog w = .ok (.string (s.extract 0 b)) w := by
  have e1 : ¬ ((s.size : Int) < b) := by omega
  go_simp
theorem slice_from' (s : ByteArray) (a : Nat) (z : Int) (hz : z = a) (h : a ≤ s.size) (w : World) : (Instr.slice 9 (.string s) (some (.int .i64 z)) none none).run Tryd.prog w = .ok (.string (s.extract a s.size)) w := by
  subst hz
  exact slice_from s a h w

def objS : ByteArray := ⟨#[123, 34, 97, 34, 58, 49, 44, 34, 97, 34, 58, 50, 125]⟩

/-- The text of lists within lists. -/
structure Nest (u : Nat) (S : ByteArray) : Prop where
  list : S.data.toList = rep (u + 1) 91 ++ rep (u + 1) 93
  size : S.size = 2 * u + 2

theorem Nest.front {u : Nat} {S : ByteArray} (h : Nest u S) : (S.extract 0 u).data.toList = rep u 91 := by
  rw [ext_list, List.drop_zero, h.list, Nat.sub_zero, ← rep_snoc u 91, List.append_assoc]
  exact List.take_left' (rep_len u 91)
theorem Nest.back {u : Nat} {S : ByteArray} (h : Nest u S) : (S.extract (u + 2) S.size).data.toList = rep u 93 := by
  rw [ext_all, h.list, rep_succ u 93]
  have : rep (u + 1) 91 ++ 93 :: rep u 93 = (rep (u + 1) 91 ++ [93]) ++ rep u 93 := by simp
  rw [this]
  exact List.drop_left' (by rw [List.length_append, rep_len]; rfl)

theorem nest_text {u : Nat} {S : ByteArray} (h : Nest u S) : ((S.extract 0 u ++ objS) ++ S.extract (u + 2) S.size : ByteArray).data.toList = rep u 91 ++ (twoA ++ rep u 93) := by
  rw [app_list, app_list, h.front, h.back, List.append_assoc]
  rfl

/-- Blanks, so many of them. -/
def blk (i : Nat) (j : Nat) : Value := .int .u8 (if j < i then 32 else 0)

theorem blanks_text {wr : World} {G m : Nat} (hm : 1 ≤ m) (h : wr.rowIs G 5 m (fun j => if j = 0 then .int .u8 53 else blk m j)) :
    (convert 39 9 (.slice (some ⟨G, 0, none⟩) m m)).run Tryd.prog wr = .ok (.string ⟨(53 :: rep (m - 1) 32).toArray⟩) wr := by
  have := conv_bytes wr ⟨G, 0, none⟩ (53 :: List.replicate (m - 1) 32) m (fun j v hj => by
    rw [Go.WideShapes.add_plain, Nat.zero_add]
    have hlt : j < m := by
      have := (List.getElem?_eq_some_iff.1 hj).1
      simp at this
      omega
    rw [h.cell hlt, ← hj]
    cases j with
    | zero => rfl
    | succ j =>
      have h1 : j < m - 1 := by omega
      simp [blk, hlt, h1])
  have hl : (53 :: List.replicate (m - 1) (32 : Int)).length = m := by simp; omega
  have hmp : (53 :: List.replicate (m - 1) (32 : Int)).map (fun n => UInt8.ofNat n.toNat) = 53 :: rep (m - 1) 32 := by
    rw [List.map_cons, List.map_replicate]
    rfl
  rw [hl, hmp] at this
  exact this

end Go.Proofs.YtbcenaljaoejkaaDoor
