/-
  JreadNumbers: for every input it answers true.
-/
import Derived.Test.YtbcenaljaoejkaaDoorJn
namespace Go.Proofs.YtbcenaljaoejkaaDoor
open Go.RowKit

theorem br_list (S : ByteArray) : ((⟨#[91]⟩ ++ S) ++ ⟨#[93]⟩ : ByteArray).data.toList = 91 :: (S.data.toList ++ [93]) := by
  rw [app_list, app_list]
  rfl
theorem ns_dig {l : List UInt8} (h : allDig l) : ∀ c ∈ l, isNS c := fun c hc => dig_ns (h c hc)
theorem ns_app {a b : List UInt8} (ha : ∀ c ∈ a, isNS c) (hb : ∀ c ∈ b, isNS c) : ∀ c ∈ a ++ b, isNS c := fun c hc => by
  rcases List.mem_append.1 hc with h | h
  · exact ha c h
  · exact hb c h
theorem ns_lit {l : List UInt8} (h : l.all (fun b => numSigns.data.toList.contains b) = true) : ∀ c ∈ l, isNS c := fun c hc => List.all_eq_true.1 h c hc

theorem ns_b {b : UInt8} (h : numSigns.data.toList.contains b = true) : isNS b := h
theorem ns1 {x : List UInt8} (hx : ∀ c ∈ x, isNS c) : ∀ c ∈ ([45] ++ (x ++ []) : List UInt8), isNS c := by
  intro c hc
  simp only [List.append_nil, List.mem_append, List.mem_singleton] at hc
  rcases hc with rfl | h
  · exact ns_b (by decide)
  · exact hx c h
theorem ns2 {x y : List UInt8} (hx : ∀ c ∈ x, isNS c) (hy : ∀ c ∈ y, isNS c) : ∀ c ∈ ([] ++ (x ++ 46 :: y) : List UInt8), isNS c := by
  intro c hc
  simp only [List.nil_append, List.mem_append, List.mem_cons] at hc
  rcases hc with h | rfl | h
  · exact hx c h
  · exact ns_b (by decide)
  · exact hy c h
theorem ns3 {x y : List UInt8} (hx : ∀ c ∈ x, isNS c) (hy : ∀ c ∈ y, isNS c) : ∀ c ∈ ([] ++ (x ++ 101 :: 45 :: y) : List UInt8), isNS c := by
  intro c hc
  simp only [List.nil_append, List.mem_append, List.mem_cons] at hc
  rcases hc with h | rfl | rfl | h
  · exact hx c h
  · exact ns_b (by decide)
  · exact ns_b (by decide)
  · exact hy c h
theorem ns6 {x : List UInt8} (hx : ∀ c ∈ x, isNS c) : ∀ c ∈ ([] ++ (x ++ [46]) : List UInt8), isNS c := by
  intro c hc
  simp only [List.nil_append, List.mem_append, List.mem_singleton] at hc
  rcases hc with h | rfl
  · exact hx c h
  · exact ns_b (by decide)
theorem ns7 {x : List UInt8} (hx : ∀ c ∈ x, isNS c) : ∀ c ∈ (48 :: x : List UInt8), isNS c := by
  intro c hc
  simp only [List.mem_cons] at hc
  rcases hc with rfl | h
  · exact ns_b (by decide)
  · exact hx c h
theorem ne_mid (x y : List UInt8) (b : UInt8) : ([] ++ (x ++ b :: y) : List UInt8) ≠ [] := by simp

/-- A list of one number that is one. -/
theorem read_good (S : ByteArray) (wh : Bool) (hne : S.data.toList ≠ []) (hs : ∀ c ∈ S.data.toList, isNS c) (hl : S.size ≤ 40) (h1 : numOk S.data.toList = true) (h2 : numWhole S.data.toList = wh) :
    readP ((⟨#[91]⟩ ++ S) ++ ⟨#[93]⟩ : ByteArray).data.toList = (some (.mk 7 e0 [] [.mk (if wh then 3 else 4) S [] []]), 0) := by
  rw [br_list, read_num hne hs (show S.size ≤ 3000 by omega), if_pos h1, h2]
  show (some (JV.mk 7 e0 [] [.mk _ ⟨S.data.toList.toArray⟩ [] []]), 0) = _
  rw [of_list]
theorem read_bad (S : ByteArray) (hne : S.data.toList ≠ []) (hs : ∀ c ∈ S.data.toList, isNS c) (hl : S.size ≤ 40) (h1 : numOk S.data.toList = false) :
    readP ((⟨#[91]⟩ ++ S) ++ ⟨#[93]⟩ : ByteArray).data.toList = (none, 2) := by
  rw [br_list, read_num hne hs (show S.size ≤ 3000 by omega), if_neg (by rw [h1]; decide)]

theorem jn_ix0 (x y : ByteArray) (W : World) : (Instr.index 42 (.agg #[.string x, .string (⟨#[45]⟩ ++ x), .string (x ++ ⟨#[46]⟩ ++ y), .string (x ++ ⟨#[101, 45]⟩ ++ y), .string ⟨#[116, 114, 117, 101]⟩, .string ⟨#[110, 117, 108, 108]⟩, .string (x ++ ⟨#[46]⟩), .string (⟨#[48]⟩ ++ x), .string ⟨#[116, 114, 117]⟩, .string ⟨#[110, 117, 108]⟩, .string ⟨#[84, 114, 117, 101]⟩, .string ⟨#[39, 97, 39]⟩]) (.int .i64 ((0 : Nat) : Int))).run Tryd.prog W = .ok (.string x) W := by kernel_rfl
theorem jn_ix1 (x y : ByteArray) (W : World) : (Instr.index 42 (.agg #[.string x, .string (⟨#[45]⟩ ++ x), .string (x ++ ⟨#[46]⟩ ++ y), .string (x ++ ⟨#[101, 45]⟩ ++ y), .string ⟨#[116, 114, 117, 101]⟩, .string ⟨#[110, 117, 108, 108]⟩, .string (x ++ ⟨#[46]⟩), .string (⟨#[48]⟩ ++ x), .string ⟨#[116, 114, 117]⟩, .string ⟨#[110, 117, 108]⟩, .string ⟨#[84, 114, 117, 101]⟩, .string ⟨#[39, 97, 39]⟩]) (.int .i64 ((1 : Nat) : Int))).run Tryd.prog W = .ok (.string (⟨#[45]⟩ ++ x)) W := by kernel_rfl
theorem jn_ix2 (x y : ByteArray) (W : World) : (Instr.index 42 (.agg #[.string x, .string (⟨#[45]⟩ ++ x), .string (x ++ ⟨#[46]⟩ ++ y), .string (x ++ ⟨#[101, 45]⟩ ++ y), .string ⟨#[116, 114, 117, 101]⟩, .string ⟨#[110, 117, 108, 108]⟩, .string (x ++ ⟨#[46]⟩), .string (⟨#[48]⟩ ++ x), .string ⟨#[116, 114, 117]⟩, .string ⟨#[110, 117, 108]⟩, .string ⟨#[84, 114, 117, 101]⟩, .string ⟨#[39, 97, 39]⟩]) (.int .i64 ((2 : Nat) : Int))).run Tryd.prog W = .ok (.string (x ++ ⟨#[46]⟩ ++ y)) W := by kernel_rfl
theorem jn_ix3 (x y : ByteArray) (W : World) : (Instr.index 42 (.agg #[.string x, .string (⟨#[45]⟩ ++ x), .string (x ++ ⟨#[46]⟩ ++ y), .string (x ++ ⟨#[101, 45]⟩ ++ y), .string ⟨#[116, 114, 117, 101]⟩, .string ⟨#[110, 117, 108, 108]⟩, .string (x ++ ⟨#[46]⟩), .string (⟨#[48]⟩ ++ x), .string ⟨#[116, 114, 117]⟩, .string ⟨#[110, 117, 108]⟩, .string ⟨#[84, 114, 117, 101]⟩, .string ⟨#[39, 97, 39]⟩]) (.int .i64 ((3 : Nat) : Int))).run Tryd.prog W = .ok (.string (x ++ ⟨#[101, 45]⟩ ++ y)) W := by kernel_rfl
theorem jn_ix4 (x y : ByteArray) (W : World) : (Instr.index 42 (.agg #[.string x, .string (⟨#[45]⟩ ++ x), .string (x ++ ⟨#[46]⟩ ++ y), .string (x ++ ⟨#[101, 45]⟩ ++ y), .string ⟨#[116, 114, 117, 101]⟩, .string ⟨#[110, 117, 108, 108]⟩, .string (x ++ ⟨#[46]⟩), .string (⟨#[48]⟩ ++ x), .string ⟨#[116, 114, 117]⟩, .string ⟨#[110, 117, 108]⟩, .string ⟨#[84, 114, 117, 101]⟩, .string ⟨#[39, 97, 39]⟩]) (.int .i64 ((4 : Nat) : Int))).run Tryd.prog W = .ok (.string ⟨#[116, 114, 117, 101]⟩) W := by kernel_rfl
theorem jn_ix5 (x y : ByteArray) (W : World) : (Instr.index 42 (.agg #[.string x, .string (⟨#[45]⟩ ++ x), .string (x ++ ⟨#[46]⟩ ++ y), .string (x ++ ⟨#[101, 45]⟩ ++ y), .string ⟨#[116, 114, 117, 101]⟩, .string ⟨#[110, 117, 108, 108]⟩, .string (x ++ ⟨#[46]⟩), .string (⟨#[48]⟩ ++ x), .string ⟨#[116, 114, 117]⟩, .string ⟨#[110, 117, 108]⟩, .string ⟨#[84, 114, 117, 101]⟩, .string ⟨#[39, 97, 39]⟩]) (.int .i64 ((5 : Nat) : Int))).run Tryd.prog W = .ok (.string ⟨#[110, 117, 108, 108]⟩) W := by kernel_rfl
theorem jn_ix6 (x y : ByteArray) (W : World) : (Instr.index 42 (.agg #[.string x, .string (⟨#[45]⟩ ++ x), .string (x ++ ⟨#[46]⟩ ++ y), .string (x ++ ⟨#[101, 45]⟩ ++ y), .string ⟨#[116, 114, 117, 101]⟩, .string ⟨#[110, 117, 108, 108]⟩, .string (x ++ ⟨#[46]⟩), .string (⟨#[48]⟩ ++ x), .string ⟨#[116, 114, 117]⟩, .string ⟨#[110, 117, 108]⟩, .string ⟨#[84, 114, 117, 101]⟩, .string ⟨#[39, 97, 39]⟩]) (.int .i64 ((6 : Nat) : Int))).run Tryd.prog W = .ok (.string (x ++ ⟨#[46]⟩)) W := by kernel_rfl
theorem jn_ix7 (x y : ByteArray) (W : World) : (Instr.index 42 (.agg #[.string x, .string (⟨#[45]⟩ ++ x), .string (x ++ ⟨#[46]⟩ ++ y), .string (x ++ ⟨#[101, 45]⟩ ++ y), .string ⟨#[116, 114, 117, 101]⟩, .string ⟨#[110, 117, 108, 108]⟩, .string (x ++ ⟨#[46]⟩), .string (⟨#[48]⟩ ++ x), .string ⟨#[116, 114, 117]⟩, .string ⟨#[110, 117, 108]⟩, .string ⟨#[84, 114, 117, 101]⟩, .string ⟨#[39, 97, 39]⟩]) (.int .i64 ((7 : Nat) : Int))).run Tryd.prog W = .ok (.string (⟨#[48]⟩ ++ x)) W := by kernel_rfl
theorem jn_ix8 (x y : ByteArray) (W : World) : (Instr.index 42 (.agg #[.string x, .string (⟨#[45]⟩ ++ x), .string (x ++ ⟨#[46]⟩ ++ y), .string (x ++ ⟨#[101, 45]⟩ ++ y), .string ⟨#[116, 114, 117, 101]⟩, .string ⟨#[110, 117, 108, 108]⟩, .string (x ++ ⟨#[46]⟩), .string (⟨#[48]⟩ ++ x), .string ⟨#[116, 114, 117]⟩, .string ⟨#[110, 117, 108]⟩, .string ⟨#[84, 114, 117, 101]⟩, .string ⟨#[39, 97, 39]⟩]) (.int .i64 ((8 : Nat) : Int))).run Tryd.prog W = .ok (.string ⟨#[116, 114, 117]⟩) W := by kernel_rfl
theorem jn_ix9 (x y : ByteArray) (W : World) : (Instr.index 42 (.agg #[.string x, .string (⟨#[45]⟩ ++ x), .string (x ++ ⟨#[46]⟩ ++ y), .string (x ++ ⟨#[101, 45]⟩ ++ y), .string ⟨#[116, 114, 117, 101]⟩, .string ⟨#[110, 117, 108, 108]⟩, .string (x ++ ⟨#[46]⟩), .string (⟨#[48]⟩ ++ x), .string ⟨#[116, 114, 117]⟩, .string ⟨#[110, 117, 108]⟩, .string ⟨#[84, 114, 117, 101]⟩, .string ⟨#[39, 97, 39]⟩]) (.int .i64 ((9 : Nat) : Int))).run Tryd.prog W = .ok (.string ⟨#[110, 117, 108]⟩) W := by kernel_rfl
theorem jn_ix10 (x y : ByteArray) (W : World) : (Instr.index 42 (.agg #[.string x, .string (⟨#[45]⟩ ++ x), .string (x ++ ⟨#[46]⟩ ++ y), .string (x ++ ⟨#[101, 45]⟩ ++ y), .string ⟨#[116, 114, 117, 101]⟩, .string ⟨#[110, 117, 108, 108]⟩, .string (x ++ ⟨#[46]⟩), .string (⟨#[48]⟩ ++ x), .string ⟨#[116, 114, 117]⟩, .string ⟨#[110, 117, 108]⟩, .string ⟨#[84, 114, 117, 101]⟩, .string ⟨#[39, 97, 39]⟩]) (.int .i64 ((10 : Nat) : Int))).run Tryd.prog W = .ok (.string ⟨#[84, 114, 117, 101]⟩) W := by kernel_rfl
theorem jn_ix11 (x y : ByteArray) (W : World) : (Instr.index 42 (.agg #[.string x, .string (⟨#[45]⟩ ++ x), .string (x ++ ⟨#[46]⟩ ++ y), .string (x ++ ⟨#[101, 45]⟩ ++ y), .string ⟨#[116, 114, 117, 101]⟩, .string ⟨#[110, 117, 108, 108]⟩, .string (x ++ ⟨#[46]⟩), .string (⟨#[48]⟩ ++ x), .string ⟨#[116, 114, 117]⟩, .string ⟨#[110, 117, 108]⟩, .string ⟨#[84, 114, 117, 101]⟩, .string ⟨#[39, 97, 39]⟩]) (.int .i64 ((11 : Nat) : Int))).run Tryd.prog W = .ok (.string ⟨#[39, 97, 39]⟩) W := by kernel_rfl
theorem jn_iy0 (W : World) : (Instr.index 43 (.agg #[.int .i64 3, .int .i64 3, .int .i64 4, .int .i64 4, .int .i64 2, .int .i64 1]) (.int .i64 ((0 : Nat) : Int))).run Tryd.prog W = .ok (.int .i64 3) W := by kernel_rfl
theorem jn_iy1 (W : World) : (Instr.index 43 (.agg #[.int .i64 3, .int .i64 3, .int .i64 4, .int .i64 4, .int .i64 2, .int .i64 1]) (.int .i64 ((1 : Nat) : Int))).run Tryd.prog W = .ok (.int .i64 3) W := by kernel_rfl
theorem jn_iy2 (W : World) : (Instr.index 43 (.agg #[.int .i64 3, .int .i64 3, .int .i64 4, .int .i64 4, .int .i64 2, .int .i64 1]) (.int .i64 ((2 : Nat) : Int))).run Tryd.prog W = .ok (.int .i64 4) W := by kernel_rfl
theorem jn_iy3 (W : World) : (Instr.index 43 (.agg #[.int .i64 3, .int .i64 3, .int .i64 4, .int .i64 4, .int .i64 2, .int .i64 1]) (.int .i64 ((3 : Nat) : Int))).run Tryd.prog W = .ok (.int .i64 4) W := by kernel_rfl
theorem jn_iy4 (W : World) : (Instr.index 43 (.agg #[.int .i64 3, .int .i64 3, .int .i64 4, .int .i64 4, .int .i64 2, .int .i64 1]) (.int .i64 ((4 : Nat) : Int))).run Tryd.prog W = .ok (.int .i64 2) W := by kernel_rfl
theorem jn_iy5 (W : World) : (Instr.index 43 (.agg #[.int .i64 3, .int .i64 3, .int .i64 4, .int .i64 4, .int .i64 2, .int .i64 1]) (.int .i64 ((5 : Nat) : Int))).run Tryd.prog W = .ok (.int .i64 1) W := by kernel_rfl
theorem jn_rd4 : readP ((⟨#[91]⟩ ++ ⟨#[116, 114, 117, 101]⟩) ++ ⟨#[93]⟩ : ByteArray).data.toList = (some (.mk 7 e0 [] [.mk 2 ⟨#[116, 114, 117, 101]⟩ [] []]), 0) := by
  rw [br_list]
  kernel_rfl
theorem jn_rd5 : readP ((⟨#[91]⟩ ++ ⟨#[110, 117, 108, 108]⟩) ++ ⟨#[93]⟩ : ByteArray).data.toList = (some (.mk 7 e0 [] [.mk 1 e0 [] []]), 0) := by
  rw [br_list]
  kernel_rfl
theorem jn_rd8 : readP ((⟨#[91]⟩ ++ ⟨#[116, 114, 117]⟩) ++ ⟨#[93]⟩ : ByteArray).data.toList = (none, 2) := by
  rw [br_list]
  kernel_rfl
theorem jn_rd9 : readP ((⟨#[91]⟩ ++ ⟨#[110, 117, 108]⟩) ++ ⟨#[93]⟩ : ByteArray).data.toList = (none, 2) := by
  rw [br_list]
  kernel_rfl
theorem jn_rd10 : readP ((⟨#[91]⟩ ++ ⟨#[84, 114, 117, 101]⟩) ++ ⟨#[93]⟩ : ByteArray).data.toList = (none, 2) := by
  rw [br_list]
  kernel_rfl
theorem jn_rd11 : readP ((⟨#[91]⟩ ++ ⟨#[39, 97, 39]⟩) ++ ⟨#[93]⟩ : ByteArray).data.toList = (none, 2) := by
  rw [br_list]
  kernel_rfl


set_option maxHeartbeats 400000 in
theorem jreadNumbers_walk (a b how : Int) (w : World) : Calls Tryd.prog 6 #[.int .i64 a, .int .i64 b, .int .i64 how] w (TrueBelow w) := by
  obtain ⟨ua, ea, la⟩ := rem_nat' a 1000000 (by omega)
  obtain ⟨ub, eb, lb⟩ := rem_nat' b 1000 (by omega)
  obtain ⟨k, ek, lk⟩ := rem_nat' how 12 (by omega)
  have HPa : ∀ W, Calls Tryd.prog 13 #[.int .i64 a, .int .i64 1000000] W fun e w' => e = .returned (.int .i64 (ua : Int)) ∧ W = w' := fun W => by have := place_any a 1000000 W (by omega) (by omega); rw [ea] at this; exact this
  have HPb : ∀ W, Calls Tryd.prog 13 #[.int .i64 b, .int .i64 1000] W fun e w' => e = .returned (.int .i64 (ub : Int)) ∧ W = w' := fun W => by have := place_any b 1000 W (by omega) (by omega); rw [eb] at this; exact this
  have HPk : ∀ W, Calls Tryd.prog 13 #[.int .i64 how, .int .i64 12] W fun e w' => e = .returned (.int .i64 (k : Int)) ∧ W = w' := fun W => by have := place_any how 12 W (by omega) (by omega); rw [ek] at this; exact this
  have HDx := fun W => lawDigits_any 6 ua W (by omega) (by omega) (by omega)
  have HDy := fun W => lawDigits_any 3 ub W (by omega) (by omega) (by omega)
  have nX := dgs_nat 6 ua (by omega) (by omega)
  have nY := dgs_nat 3 ub (by omega) (by omega)
  have sX : (⟨(dgs 6 ua).toArray⟩ : ByteArray).size ≤ 6 := dgs_len 6 ua
  have sY : (⟨(dgs 3 ub).toArray⟩ : ByteArray).size ≤ 3 := dgs_len 3 ub
  have lX : (⟨(dgs 6 ua).toArray⟩ : ByteArray).data.toList = dgs 6 ua := rfl
  have lY : (⟨(dgs 3 ub).toArray⟩ : ByteArray).data.toList = dgs 3 ub := rfl
  rw [← lX] at nX
  rw [← lY] at nY
  clear lX lY
  generalize (⟨(dgs 6 ua).toArray⟩ : ByteArray) = x at *
  generalize (⟨(dgs 3 ub).toArray⟩ : ByteArray) = y at *
  have zx : x.data.toList.length = x.size := rfl
  have zy : y.data.toList.length = y.size := rfl
  have nsX := ns_dig nX.dig
  have nsY := ns_dig nY.dig
  have l1 : ((⟨#[45]⟩ : ByteArray) ++ x).data.toList = [45] ++ (x.data.toList ++ []) := by rw [app_list, List.append_nil]
  have l2 : (x ++ ⟨#[46]⟩ ++ y).data.toList = [] ++ (x.data.toList ++ 46 :: y.data.toList) := by rw [app_list, app_list, List.append_assoc]; rfl
  have l3 : (x ++ ⟨#[101, 45]⟩ ++ y).data.toList = [] ++ (x.data.toList ++ 101 :: 45 :: y.data.toList) := by rw [app_list, app_list, List.append_assoc]; rfl
  have l6 : (x ++ ⟨#[46]⟩).data.toList = [] ++ (x.data.toList ++ [46]) := by rw [app_list]; rfl
  have l7 : ((⟨#[48]⟩ : ByteArray) ++ x).data.toList = 48 :: x.data.toList := by rw [app_list]; rfl
  have f0 := form1 (sg := []) (.inl rfl) nX (by simp; omega)
  have f1 := form1 (sg := [45]) (.inr rfl) nX (by simp; omega)
  have f2 := form2 (sg := []) (.inl rfl) nX nY (by simp; omega)
  have f3 := form5 (sg := []) (.inl rfl) nX nY (by simp; omega)
  have f6 := bad_a (sg := []) (.inl rfl) nX
  have f7 := bad_zero nX
  rw [List.nil_append, List.append_nil] at f0
  have z1 : ((⟨#[45]⟩ : ByteArray) ++ x).size ≤ 40 := by rw [ByteArray.size_append]; show 1 + _ ≤ _; omega
  have z2 : (x ++ ⟨#[46]⟩ ++ y).size ≤ 40 := by rw [ByteArray.size_append, ByteArray.size_append]; show _ + 1 + _ ≤ _; omega
  have z3 : (x ++ ⟨#[101, 45]⟩ ++ y).size ≤ 40 := by rw [ByteArray.size_append, ByteArray.size_append]; show _ + 2 + _ ≤ _; omega
  have z6 : (x ++ ⟨#[46]⟩).size ≤ 40 := by rw [ByteArray.size_append]; show _ + 1 ≤ _; omega
  have z7 : ((⟨#[48]⟩ : ByteArray) ++ x).size ≤ 40 := by rw [ByteArray.size_append]; show 1 + _ ≤ _; omega
  have k12 : k < 12 := by omega
  clear ea eb ek la lb lk
  have r0 : readP ((⟨#[91]⟩ ++ x) ++ ⟨#[93]⟩ : ByteArray).data.toList = (some (.mk 7 e0 [] [.mk 3 x [] []]), 0) := by
    have q := read_good x true nX.ne nsX (by omega) f0.1 f0.2
    exact q
  have r1 : readP ((⟨#[91]⟩ ++ (⟨#[45]⟩ ++ x)) ++ ⟨#[93]⟩ : ByteArray).data.toList = (some (.mk 7 e0 [] [.mk 3 (⟨#[45]⟩ ++ x) [] []]), 0) := by
    have q := read_good (⟨#[45]⟩ ++ x) true (by rw [l1]; simp) (by rw [l1]; exact ns1 nsX) z1 (by rw [l1]; exact f1.1) (by rw [l1]; exact f1.2)
    exact q
  have r2 : readP ((⟨#[91]⟩ ++ (x ++ ⟨#[46]⟩ ++ y)) ++ ⟨#[93]⟩ : ByteArray).data.toList = (some (.mk 7 e0 [] [.mk 4 (x ++ ⟨#[46]⟩ ++ y) [] []]), 0) := by
    have q := read_good (x ++ ⟨#[46]⟩ ++ y) false (by rw [l2]; exact ne_mid _ _ _) (by rw [l2]; exact ns2 nsX nsY) z2 (by rw [l2]; exact f2.1) (by rw [l2]; exact f2.2)
    exact q
  have r3 : readP ((⟨#[91]⟩ ++ (x ++ ⟨#[101, 45]⟩ ++ y)) ++ ⟨#[93]⟩ : ByteArray).data.toList = (some (.mk 7 e0 [] [.mk 4 (x ++ ⟨#[101, 45]⟩ ++ y) [] []]), 0) := by
    have q := read_good (x ++ ⟨#[101, 45]⟩ ++ y) false (by rw [l3]; exact ne_mid _ _ _) (by rw [l3]; exact ns3 nsX nsY) z3 (by rw [l3]; exact f3.1) (by rw [l3]; exact f3.2)
    exact q
  have r4 : readP ((⟨#[91]⟩ ++ ⟨#[116, 114, 117, 101]⟩) ++ ⟨#[93]⟩ : ByteArray).data.toList = (some (.mk 7 e0 [] [.mk 2 ⟨#[116, 114, 117, 101]⟩ [] []]), 0) := by
    have q := jn_rd4
    exact q
  have r5 : readP ((⟨#[91]⟩ ++ ⟨#[110, 117, 108, 108]⟩) ++ ⟨#[93]⟩ : ByteArray).data.toList = (some (.mk 7 e0 [] [.mk 1 e0 [] []]), 0) := by
    have q := jn_rd5
    exact q
  have r6 : readP ((⟨#[91]⟩ ++ (x ++ ⟨#[46]⟩)) ++ ⟨#[93]⟩ : ByteArray).data.toList = (none, 2) := by
    have q := read_bad (x ++ ⟨#[46]⟩) (by rw [l6]; exact ne_mid _ _ _) (by rw [l6]; exact ns6 nsX) z6 (by rw [l6]; exact f6)
    exact q
  have r7 : readP ((⟨#[91]⟩ ++ (⟨#[48]⟩ ++ x)) ++ ⟨#[93]⟩ : ByteArray).data.toList = (none, 2) := by
    have q := read_bad (⟨#[48]⟩ ++ x) (by rw [l7]; simp) (by rw [l7]; exact ns7 nsX) z7 (by rw [l7]; exact f7)
    exact q
  have r8 : readP ((⟨#[91]⟩ ++ ⟨#[116, 114, 117]⟩) ++ ⟨#[93]⟩ : ByteArray).data.toList = (none, 2) := by
    have q := jn_rd8
    exact q
  have r9 : readP ((⟨#[91]⟩ ++ ⟨#[110, 117, 108]⟩) ++ ⟨#[93]⟩ : ByteArray).data.toList = (none, 2) := by
    have q := jn_rd9
    exact q
  have r10 : readP ((⟨#[91]⟩ ++ ⟨#[84, 114, 117, 101]⟩) ++ ⟨#[93]⟩ : ByteArray).data.toList = (none, 2) := by
    have q := jn_rd10
    exact q
  have r11 : readP ((⟨#[91]⟩ ++ ⟨#[39, 97, 39]⟩) ++ ⟨#[93]⟩ : ByteArray).data.toList = (none, 2) := by
    have q := jn_rd11
    exact q
  clear l1 l2 l3 l6 l7 f0 f1 f2 f3 f6 f7 nX nY nsX nsY zx zy
  match k, k12 with
  | 0, _ => exact jn_ok a b how w ua ub 0 x y x sX sY (by omega) HPa HPb HPk HDx HDy (jn_ix0 x y) 3 x (by decide) jn_iy0 false (by decide) (fun _ => rfl) r0
  | 1, _ => exact jn_ok a b how w ua ub 1 x y (⟨#[45]⟩ ++ x) sX sY z1 HPa HPb HPk HDx HDy (jn_ix1 x y) 3 (⟨#[45]⟩ ++ x) (by decide) jn_iy1 false (by decide) (fun _ => rfl) r1
  | 2, _ => exact jn_ok a b how w ua ub 2 x y (x ++ ⟨#[46]⟩ ++ y) sX sY z2 HPa HPb HPk HDx HDy (jn_ix2 x y) 4 (x ++ ⟨#[46]⟩ ++ y) (by decide) jn_iy2 false (by decide) (fun _ => rfl) r2
  | 3, _ => exact jn_ok a b how w ua ub 3 x y (x ++ ⟨#[101, 45]⟩ ++ y) sX sY z3 HPa HPb HPk HDx HDy (jn_ix3 x y) 4 (x ++ ⟨#[101, 45]⟩ ++ y) (by decide) jn_iy3 false (by decide) (fun _ => rfl) r3
  | 4, _ => exact jn_ok a b how w ua ub 4 x y ⟨#[116, 114, 117, 101]⟩ sX sY (by decide) HPa HPb HPk HDx HDy (jn_ix4 x y) 2 ⟨#[116, 114, 117, 101]⟩ (by decide) jn_iy4 false (by decide) (fun _ => rfl) r4
  | 5, _ => exact jn_ok a b how w ua ub 5 x y ⟨#[110, 117, 108, 108]⟩ sX sY (by decide) HPa HPb HPk HDx HDy (jn_ix5 x y) 1 e0 (by decide) jn_iy5 true (by decide) (fun h => by cases h) r5
  | 6, _ => exact jn_bad a b how w ua ub 6 x y (x ++ ⟨#[46]⟩) sX sY z6 HPa HPb HPk HDx HDy (jn_ix6 x y) (by decide) r6
  | 7, _ => exact jn_bad a b how w ua ub 7 x y (⟨#[48]⟩ ++ x) sX sY z7 HPa HPb HPk HDx HDy (jn_ix7 x y) (by decide) r7
  | 8, _ => exact jn_bad a b how w ua ub 8 x y ⟨#[116, 114, 117]⟩ sX sY (by decide) HPa HPb HPk HDx HDy (jn_ix8 x y) (by decide) r8
  | 9, _ => exact jn_bad a b how w ua ub 9 x y ⟨#[110, 117, 108]⟩ sX sY (by decide) HPa HPb HPk HDx HDy (jn_ix9 x y) (by decide) r9
  | 10, _ => exact jn_bad a b how w ua ub 10 x y ⟨#[84, 114, 117, 101]⟩ sX sY (by decide) HPa HPb HPk HDx HDy (jn_ix10 x y) (by decide) r10
  | 11, _ => exact jn_bad a b how w ua ub 11 x y ⟨#[39, 97, 39]⟩ sX sY (by decide) HPa HPb HPk HDx HDy (jn_ix11 x y) (by decide) r11

end Go.Proofs.YtbcenaljaoejkaaDoor
