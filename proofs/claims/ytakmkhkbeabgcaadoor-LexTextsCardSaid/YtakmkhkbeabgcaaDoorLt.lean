/-
  LexTexts: its walk.
-/
import Derived.Test.YtakmkhkbeabgcaaDoorLt1
namespace Go.Proofs.YtakmkhkbeabgcaaDoor
open Go.RowKit

theorem lt_next (l : List Nat) (j : Nat) (x : Nat) (h : l[j]? = some x) : l.take (j + 1) = l.take j ++ [x] := by
  rw [List.take_add_one, h]; rfl
def nums8 (zs : List Int) : List Nat := (zs.take 60).map fun z => (z % 8).toNat
theorem lt_S0 (W : World) : (Instr.index 39 (.agg #[.string ⟨#[97]⟩, .string ⟨#[92, 110]⟩, .string ⟨#[92, 34]⟩, .string ⟨#[92, 92]⟩, .string ⟨#[92, 117, 48, 48, 52, 49]⟩, .string ⟨#[32]⟩, .string ⟨#[35]⟩, .string ⟨#[92, 47]⟩]) (.int .i64 ((0 : Nat) : Int))).run Tryd.prog W = .ok (.string ⟨(pS 0).toArray⟩) W := by kernel_rfl
theorem lt_S1 (W : World) : (Instr.index 39 (.agg #[.string ⟨#[97]⟩, .string ⟨#[92, 110]⟩, .string ⟨#[92, 34]⟩, .string ⟨#[92, 92]⟩, .string ⟨#[92, 117, 48, 48, 52, 49]⟩, .string ⟨#[32]⟩, .string ⟨#[35]⟩, .string ⟨#[92, 47]⟩]) (.int .i64 ((1 : Nat) : Int))).run Tryd.prog W = .ok (.string ⟨(pS 1).toArray⟩) W := by kernel_rfl
theorem lt_S2 (W : World) : (Instr.index 39 (.agg #[.string ⟨#[97]⟩, .string ⟨#[92, 110]⟩, .string ⟨#[92, 34]⟩, .string ⟨#[92, 92]⟩, .string ⟨#[92, 117, 48, 48, 52, 49]⟩, .string ⟨#[32]⟩, .string ⟨#[35]⟩, .string ⟨#[92, 47]⟩]) (.int .i64 ((2 : Nat) : Int))).run Tryd.prog W = .ok (.string ⟨(pS 2).toArray⟩) W := by kernel_rfl
theorem lt_S3 (W : World) : (Instr.index 39 (.agg #[.string ⟨#[97]⟩, .string ⟨#[92, 110]⟩, .string ⟨#[92, 34]⟩, .string ⟨#[92, 92]⟩, .string ⟨#[92, 117, 48, 48, 52, 49]⟩, .string ⟨#[32]⟩, .string ⟨#[35]⟩, .string ⟨#[92, 47]⟩]) (.int .i64 ((3 : Nat) : Int))).run Tryd.prog W = .ok (.string ⟨(pS 3).toArray⟩) W := by kernel_rfl
theorem lt_S4 (W : World) : (Instr.index 39 (.agg #[.string ⟨#[97]⟩, .string ⟨#[92, 110]⟩, .string ⟨#[92, 34]⟩, .string ⟨#[92, 92]⟩, .string ⟨#[92, 117, 48, 48, 52, 49]⟩, .string ⟨#[32]⟩, .string ⟨#[35]⟩, .string ⟨#[92, 47]⟩]) (.int .i64 ((4 : Nat) : Int))).run Tryd.prog W = .ok (.string ⟨(pS 4).toArray⟩) W := by kernel_rfl
theorem lt_S5 (W : World) : (Instr.index 39 (.agg #[.string ⟨#[97]⟩, .string ⟨#[92, 110]⟩, .string ⟨#[92, 34]⟩, .string ⟨#[92, 92]⟩, .string ⟨#[92, 117, 48, 48, 52, 49]⟩, .string ⟨#[32]⟩, .string ⟨#[35]⟩, .string ⟨#[92, 47]⟩]) (.int .i64 ((5 : Nat) : Int))).run Tryd.prog W = .ok (.string ⟨(pS 5).toArray⟩) W := by kernel_rfl
theorem lt_S6 (W : World) : (Instr.index 39 (.agg #[.string ⟨#[97]⟩, .string ⟨#[92, 110]⟩, .string ⟨#[92, 34]⟩, .string ⟨#[92, 92]⟩, .string ⟨#[92, 117, 48, 48, 52, 49]⟩, .string ⟨#[32]⟩, .string ⟨#[35]⟩, .string ⟨#[92, 47]⟩]) (.int .i64 ((6 : Nat) : Int))).run Tryd.prog W = .ok (.string ⟨(pS 6).toArray⟩) W := by kernel_rfl
theorem lt_S7 (W : World) : (Instr.index 39 (.agg #[.string ⟨#[97]⟩, .string ⟨#[92, 110]⟩, .string ⟨#[92, 34]⟩, .string ⟨#[92, 92]⟩, .string ⟨#[92, 117, 48, 48, 52, 49]⟩, .string ⟨#[32]⟩, .string ⟨#[35]⟩, .string ⟨#[92, 47]⟩]) (.int .i64 ((7 : Nat) : Int))).run Tryd.prog W = .ok (.string ⟨(pS 7).toArray⟩) W := by kernel_rfl
theorem lt_S (k : Nat) (hk : k < 8) (W : World) : (Instr.index 39 (.agg #[.string ⟨#[97]⟩, .string ⟨#[92, 110]⟩, .string ⟨#[92, 34]⟩, .string ⟨#[92, 92]⟩, .string ⟨#[92, 117, 48, 48, 52, 49]⟩, .string ⟨#[32]⟩, .string ⟨#[35]⟩, .string ⟨#[92, 47]⟩]) (.int .i64 (k : Int))).run Tryd.prog W = .ok (.string ⟨(pS k).toArray⟩) W :=
  match k, hk with
  | 0, _ => lt_S0 W
  | 1, _ => lt_S1 W
  | 2, _ => lt_S2 W
  | 3, _ => lt_S3 W
  | 4, _ => lt_S4 W
  | 5, _ => lt_S5 W
  | 6, _ => lt_S6 W
  | 7, _ => lt_S7 W
theorem lt_W0 (W : World) : (Instr.index 39 (.agg #[.string ⟨#[97]⟩, .string ⟨#[10]⟩, .string ⟨#[34]⟩, .string ⟨#[92]⟩, .string ⟨#[65]⟩, .string ⟨#[32]⟩, .string ⟨#[35]⟩, .string ⟨#[47]⟩]) (.int .i64 ((0 : Nat) : Int))).run Tryd.prog W = .ok (.string ⟨(pW 0).toArray⟩) W := by kernel_rfl
theorem lt_W1 (W : World) : (Instr.index 39 (.agg #[.string ⟨#[97]⟩, .string ⟨#[10]⟩, .string ⟨#[34]⟩, .string ⟨#[92]⟩, .string ⟨#[65]⟩, .string ⟨#[32]⟩, .string ⟨#[35]⟩, .string ⟨#[47]⟩]) (.int .i64 ((1 : Nat) : Int))).run Tryd.prog W = .ok (.string ⟨(pW 1).toArray⟩) W := by kernel_rfl
theorem lt_W2 (W : World) : (Instr.index 39 (.agg #[.string ⟨#[97]⟩, .string ⟨#[10]⟩, .string ⟨#[34]⟩, .string ⟨#[92]⟩, .string ⟨#[65]⟩, .string ⟨#[32]⟩, .string ⟨#[35]⟩, .string ⟨#[47]⟩]) (.int .i64 ((2 : Nat) : Int))).run Tryd.prog W = .ok (.string ⟨(pW 2).toArray⟩) W := by kernel_rfl
theorem lt_W3 (W : World) : (Instr.index 39 (.agg #[.string ⟨#[97]⟩, .string ⟨#[10]⟩, .string ⟨#[34]⟩, .string ⟨#[92]⟩, .string ⟨#[65]⟩, .string ⟨#[32]⟩, .string ⟨#[35]⟩, .string ⟨#[47]⟩]) (.int .i64 ((3 : Nat) : Int))).run Tryd.prog W = .ok (.string ⟨(pW 3).toArray⟩) W := by kernel_rfl
theorem lt_W4 (W : World) : (Instr.index 39 (.agg #[.string ⟨#[97]⟩, .string ⟨#[10]⟩, .string ⟨#[34]⟩, .string ⟨#[92]⟩, .string ⟨#[65]⟩, .string ⟨#[32]⟩, .string ⟨#[35]⟩, .string ⟨#[47]⟩]) (.int .i64 ((4 : Nat) : Int))).run Tryd.prog W = .ok (.string ⟨(pW 4).toArray⟩) W := by kernel_rfl
theorem lt_W5 (W : World) : (Instr.index 39 (.agg #[.string ⟨#[97]⟩, .string ⟨#[10]⟩, .string ⟨#[34]⟩, .string ⟨#[92]⟩, .string ⟨#[65]⟩, .string ⟨#[32]⟩, .string ⟨#[35]⟩, .string ⟨#[47]⟩]) (.int .i64 ((5 : Nat) : Int))).run Tryd.prog W = .ok (.string ⟨(pW 5).toArray⟩) W := by kernel_rfl
theorem lt_W6 (W : World) : (Instr.index 39 (.agg #[.string ⟨#[97]⟩, .string ⟨#[10]⟩, .string ⟨#[34]⟩, .string ⟨#[92]⟩, .string ⟨#[65]⟩, .string ⟨#[32]⟩, .string ⟨#[35]⟩, .string ⟨#[47]⟩]) (.int .i64 ((6 : Nat) : Int))).run Tryd.prog W = .ok (.string ⟨(pW 6).toArray⟩) W := by kernel_rfl
theorem lt_W7 (W : World) : (Instr.index 39 (.agg #[.string ⟨#[97]⟩, .string ⟨#[10]⟩, .string ⟨#[34]⟩, .string ⟨#[92]⟩, .string ⟨#[65]⟩, .string ⟨#[32]⟩, .string ⟨#[35]⟩, .string ⟨#[47]⟩]) (.int .i64 ((7 : Nat) : Int))).run Tryd.prog W = .ok (.string ⟨(pW 7).toArray⟩) W := by kernel_rfl
theorem lt_W (k : Nat) (hk : k < 8) (W : World) : (Instr.index 39 (.agg #[.string ⟨#[97]⟩, .string ⟨#[10]⟩, .string ⟨#[34]⟩, .string ⟨#[92]⟩, .string ⟨#[65]⟩, .string ⟨#[32]⟩, .string ⟨#[35]⟩, .string ⟨#[47]⟩]) (.int .i64 (k : Int))).run Tryd.prog W = .ok (.string ⟨(pW k).toArray⟩) W :=
  match k, hk with
  | 0, _ => lt_W0 W
  | 1, _ => lt_W1 W
  | 2, _ => lt_W2 W
  | 3, _ => lt_W3 W
  | 4, _ => lt_W4 W
  | 5, _ => lt_W5 W
  | 6, _ => lt_W6 W
  | 7, _ => lt_W7 W
theorem lt_B0 (W : World) : (Instr.index 39 (.agg #[.string ⟨#[97]⟩, .string ⟨#[92, 110]⟩, .string ⟨#[92, 34, 34, 34]⟩, .string ⟨#[34]⟩, .string ⟨#[92, 117, 48, 48, 52, 49]⟩, .string ⟨#[98]⟩, .string ⟨#[35]⟩, .string ⟨#[92, 47]⟩]) (.int .i64 ((0 : Nat) : Int))).run Tryd.prog W = .ok (.string ⟨(pB 0).toArray⟩) W := by kernel_rfl
theorem lt_B1 (W : World) : (Instr.index 39 (.agg #[.string ⟨#[97]⟩, .string ⟨#[92, 110]⟩, .string ⟨#[92, 34, 34, 34]⟩, .string ⟨#[34]⟩, .string ⟨#[92, 117, 48, 48, 52, 49]⟩, .string ⟨#[98]⟩, .string ⟨#[35]⟩, .string ⟨#[92, 47]⟩]) (.int .i64 ((1 : Nat) : Int))).run Tryd.prog W = .ok (.string ⟨(pB 1).toArray⟩) W := by kernel_rfl
theorem lt_B2 (W : World) : (Instr.index 39 (.agg #[.string ⟨#[97]⟩, .string ⟨#[92, 110]⟩, .string ⟨#[92, 34, 34, 34]⟩, .string ⟨#[34]⟩, .string ⟨#[92, 117, 48, 48, 52, 49]⟩, .string ⟨#[98]⟩, .string ⟨#[35]⟩, .string ⟨#[92, 47]⟩]) (.int .i64 ((2 : Nat) : Int))).run Tryd.prog W = .ok (.string ⟨(pB 2).toArray⟩) W := by kernel_rfl
theorem lt_B3 (W : World) : (Instr.index 39 (.agg #[.string ⟨#[97]⟩, .string ⟨#[92, 110]⟩, .string ⟨#[92, 34, 34, 34]⟩, .string ⟨#[34]⟩, .string ⟨#[92, 117, 48, 48, 52, 49]⟩, .string ⟨#[98]⟩, .string ⟨#[35]⟩, .string ⟨#[92, 47]⟩]) (.int .i64 ((3 : Nat) : Int))).run Tryd.prog W = .ok (.string ⟨(pB 3).toArray⟩) W := by kernel_rfl
theorem lt_B4 (W : World) : (Instr.index 39 (.agg #[.string ⟨#[97]⟩, .string ⟨#[92, 110]⟩, .string ⟨#[92, 34, 34, 34]⟩, .string ⟨#[34]⟩, .string ⟨#[92, 117, 48, 48, 52, 49]⟩, .string ⟨#[98]⟩, .string ⟨#[35]⟩, .string ⟨#[92, 47]⟩]) (.int .i64 ((4 : Nat) : Int))).run Tryd.prog W = .ok (.string ⟨(pB 4).toArray⟩) W := by kernel_rfl
theorem lt_B5 (W : World) : (Instr.index 39 (.agg #[.string ⟨#[97]⟩, .string ⟨#[92, 110]⟩, .string ⟨#[92, 34, 34, 34]⟩, .string ⟨#[34]⟩, .string ⟨#[92, 117, 48, 48, 52, 49]⟩, .string ⟨#[98]⟩, .string ⟨#[35]⟩, .string ⟨#[92, 47]⟩]) (.int .i64 ((5 : Nat) : Int))).run Tryd.prog W = .ok (.string ⟨(pB 5).toArray⟩) W := by kernel_rfl
theorem lt_B6 (W : World) : (Instr.index 39 (.agg #[.string ⟨#[97]⟩, .string ⟨#[92, 110]⟩, .string ⟨#[92, 34, 34, 34]⟩, .string ⟨#[34]⟩, .string ⟨#[92, 117, 48, 48, 52, 49]⟩, .string ⟨#[98]⟩, .string ⟨#[35]⟩, .string ⟨#[92, 47]⟩]) (.int .i64 ((6 : Nat) : Int))).run Tryd.prog W = .ok (.string ⟨(pB 6).toArray⟩) W := by kernel_rfl
theorem lt_B7 (W : World) : (Instr.index 39 (.agg #[.string ⟨#[97]⟩, .string ⟨#[92, 110]⟩, .string ⟨#[92, 34, 34, 34]⟩, .string ⟨#[34]⟩, .string ⟨#[92, 117, 48, 48, 52, 49]⟩, .string ⟨#[98]⟩, .string ⟨#[35]⟩, .string ⟨#[92, 47]⟩]) (.int .i64 ((7 : Nat) : Int))).run Tryd.prog W = .ok (.string ⟨(pB 7).toArray⟩) W := by kernel_rfl
theorem lt_B (k : Nat) (hk : k < 8) (W : World) : (Instr.index 39 (.agg #[.string ⟨#[97]⟩, .string ⟨#[92, 110]⟩, .string ⟨#[92, 34, 34, 34]⟩, .string ⟨#[34]⟩, .string ⟨#[92, 117, 48, 48, 52, 49]⟩, .string ⟨#[98]⟩, .string ⟨#[35]⟩, .string ⟨#[92, 47]⟩]) (.int .i64 (k : Int))).run Tryd.prog W = .ok (.string ⟨(pB k).toArray⟩) W :=
  match k, hk with
  | 0, _ => lt_B0 W
  | 1, _ => lt_B1 W
  | 2, _ => lt_B2 W
  | 3, _ => lt_B3 W
  | 4, _ => lt_B4 W
  | 5, _ => lt_B5 W
  | 6, _ => lt_B6 W
  | 7, _ => lt_B7 W
theorem lt_R0 (W : World) : (Instr.index 39 (.agg #[.string ⟨#[97]⟩, .string ⟨#[92, 110]⟩, .string ⟨#[34, 34, 34]⟩, .string ⟨#[34]⟩, .string ⟨#[92, 117, 48, 48, 52, 49]⟩, .string ⟨#[98]⟩, .string ⟨#[35]⟩, .string ⟨#[92, 47]⟩]) (.int .i64 ((0 : Nat) : Int))).run Tryd.prog W = .ok (.string ⟨(pR 0).toArray⟩) W := by kernel_rfl
theorem lt_R1 (W : World) : (Instr.index 39 (.agg #[.string ⟨#[97]⟩, .string ⟨#[92, 110]⟩, .string ⟨#[34, 34, 34]⟩, .string ⟨#[34]⟩, .string ⟨#[92, 117, 48, 48, 52, 49]⟩, .string ⟨#[98]⟩, .string ⟨#[35]⟩, .string ⟨#[92, 47]⟩]) (.int .i64 ((1 : Nat) : Int))).run Tryd.prog W = .ok (.string ⟨(pR 1).toArray⟩) W := by kernel_rfl
theorem lt_R2 (W : World) : (Instr.index 39 (.agg #[.string ⟨#[97]⟩, .string ⟨#[92, 110]⟩, .string ⟨#[34, 34, 34]⟩, .string ⟨#[34]⟩, .string ⟨#[92, 117, 48, 48, 52, 49]⟩, .string ⟨#[98]⟩, .string ⟨#[35]⟩, .string ⟨#[92, 47]⟩]) (.int .i64 ((2 : Nat) : Int))).run Tryd.prog W = .ok (.string ⟨(pR 2).toArray⟩) W := by kernel_rfl
theorem lt_R3 (W : World) : (Instr.index 39 (.agg #[.string ⟨#[97]⟩, .string ⟨#[92, 110]⟩, .string ⟨#[34, 34, 34]⟩, .string ⟨#[34]⟩, .string ⟨#[92, 117, 48, 48, 52, 49]⟩, .string ⟨#[98]⟩, .string ⟨#[35]⟩, .string ⟨#[92, 47]⟩]) (.int .i64 ((3 : Nat) : Int))).run Tryd.prog W = .ok (.string ⟨(pR 3).toArray⟩) W := by kernel_rfl
theorem lt_R4 (W : World) : (Instr.index 39 (.agg #[.string ⟨#[97]⟩, .string ⟨#[92, 110]⟩, .string ⟨#[34, 34, 34]⟩, .string ⟨#[34]⟩, .string ⟨#[92, 117, 48, 48, 52, 49]⟩, .string ⟨#[98]⟩, .string ⟨#[35]⟩, .string ⟨#[92, 47]⟩]) (.int .i64 ((4 : Nat) : Int))).run Tryd.prog W = .ok (.string ⟨(pR 4).toArray⟩) W := by kernel_rfl
theorem lt_R5 (W : World) : (Instr.index 39 (.agg #[.string ⟨#[97]⟩, .string ⟨#[92, 110]⟩, .string ⟨#[34, 34, 34]⟩, .string ⟨#[34]⟩, .string ⟨#[92, 117, 48, 48, 52, 49]⟩, .string ⟨#[98]⟩, .string ⟨#[35]⟩, .string ⟨#[92, 47]⟩]) (.int .i64 ((5 : Nat) : Int))).run Tryd.prog W = .ok (.string ⟨(pR 5).toArray⟩) W := by kernel_rfl
theorem lt_R6 (W : World) : (Instr.index 39 (.agg #[.string ⟨#[97]⟩, .string ⟨#[92, 110]⟩, .string ⟨#[34, 34, 34]⟩, .string ⟨#[34]⟩, .string ⟨#[92, 117, 48, 48, 52, 49]⟩, .string ⟨#[98]⟩, .string ⟨#[35]⟩, .string ⟨#[92, 47]⟩]) (.int .i64 ((6 : Nat) : Int))).run Tryd.prog W = .ok (.string ⟨(pR 6).toArray⟩) W := by kernel_rfl
theorem lt_R7 (W : World) : (Instr.index 39 (.agg #[.string ⟨#[97]⟩, .string ⟨#[92, 110]⟩, .string ⟨#[34, 34, 34]⟩, .string ⟨#[34]⟩, .string ⟨#[92, 117, 48, 48, 52, 49]⟩, .string ⟨#[98]⟩, .string ⟨#[35]⟩, .string ⟨#[92, 47]⟩]) (.int .i64 ((7 : Nat) : Int))).run Tryd.prog W = .ok (.string ⟨(pR 7).toArray⟩) W := by kernel_rfl
theorem lt_R (k : Nat) (hk : k < 8) (W : World) : (Instr.index 39 (.agg #[.string ⟨#[97]⟩, .string ⟨#[92, 110]⟩, .string ⟨#[34, 34, 34]⟩, .string ⟨#[34]⟩, .string ⟨#[92, 117, 48, 48, 52, 49]⟩, .string ⟨#[98]⟩, .string ⟨#[35]⟩, .string ⟨#[92, 47]⟩]) (.int .i64 (k : Int))).run Tryd.prog W = .ok (.string ⟨(pR k).toArray⟩) W :=
  match k, hk with
  | 0, _ => lt_R0 W
  | 1, _ => lt_R1 W
  | 2, _ => lt_R2 W
  | 3, _ => lt_R3 W
  | 4, _ => lt_R4 W
  | 5, _ => lt_R5 W
  | 6, _ => lt_R6 W
  | 7, _ => lt_R7 W
theorem arr_size (l : List UInt8) : (⟨l.toArray⟩ : ByteArray).size = l.length := rfl
theorem arr_list (l : List UInt8) : (⟨l.toArray⟩ : ByteArray).data.toList = l := rfl
theorem ofL {t : ByteArray} {l : List UInt8} (h : t.data.toList = l) : t = ⟨l.toArray⟩ := by subst h; rfl

set_option maxHeartbeats 4000000 in
set_option maxRecDepth 100000 in
theorem lexTexts_walk (a : Option Addr) (len cap : Nat) (zs : List Int) (w : World) (hz : zs.length = len) (hlm : len ≤ maxLen) (hrow : 0 < len → ∃ b off, a = some ⟨b, off, none⟩ ∧ ∀ i z, zs[i]? = some z → w.cell? ⟨b, off + i, none⟩ = some (.int .i64 z)) :
    Calls Tryd.prog 5 #[.slice a len cap] w (TrueBelow w) := by
  unfold maxLen at hlm
  have HR := Lib.hid hrow
  have hkl : (nums8 zs).length = min len 60 := by simp [nums8, hz]; omega
  have HKN : Hid (∀ j, j < len → j < 60 → ∃ z, zs[j]? = some z ∧ (nums8 zs)[j]? = some (z % 8).toNat) := Lib.hid (by
    intro j h1 h2
    have hj : j < zs.length := by omega
    refine ⟨zs[j], List.getElem?_eq_getElem hj, ?_⟩
    unfold nums8
    rw [List.getElem?_map, List.getElem?_take, if_pos h2, List.getElem?_eq_getElem hj]
    rfl)
  clear hz hrow
  generalize nums8 zs = ks at *
  go_enter Tryd.func5, Tryd.ntmps5
  go_wp2_with fail
  go_loop [3, 4, 5, 6, 7, 8] (fun v3 v4 v5 v6 v7 _ => ∃ (j : Nat) (S U X R : ByteArray), j ≤ ks.length ∧ v7 = .int .i64 j ∧ v3 = .string S ∧ v4 = .string U ∧ v5 = .string X ∧ v6 = .string R ∧ Hid (S.data.toList = tA (ks.take j)) ∧ Hid (U.data.toList = tW (ks.take j)) ∧ Hid (X.data.toList = tB (ks.take j)) ∧ Hid (R.data.toList = tR (ks.take j))) (fun _ _ _ _ v7 _ => 60 - (intOf v7).toNat)
  case atStart => exact ⟨0, ⟨#[34]⟩, ⟨#[]⟩, ⟨#[34, 34, 34, 120]⟩, ⟨#[120]⟩, Nat.zero_le _, rfl, rfl, rfl, rfl, rfl, Lib.hid rfl, Lib.hid rfl, Lib.hid rfl, Lib.hid rfl⟩
  case round =>
    obtain ⟨j, S, U, X, R, hj, rfl, rfl, rfl, rfl, rfl, HS, HU, HX, HB⟩ := hrel
    have htl : (ks.take j).length ≤ 60 := by rw [List.length_take]; omega
    have zS : S.size ≤ 361 := by have := tA_len (ks.take j); have e : S.data.toList.length = S.size := rfl; rw [← e, HS.out]; omega
    have zU : U.size ≤ 361 := by have := tW_len (ks.take j); have e : U.data.toList.length = U.size := rfl; rw [← e, HU.out]; omega
    have zX : X.size ≤ 424 := by have := tB_len (ks.take j); have e : X.data.toList.length = X.size := rfl; rw [← e, HX.out]; omega
    have zR : R.size ≤ 424 := by have := tR_len (ks.take j); have e : R.data.toList.length = R.size := rfl; rw [← e, HB.out]; omega
    by_cases hlt : j < ks.length
    · have h1 : j < len := by omega
      have h2 : j < 60 := by omega
      obtain ⟨z, hz1, hz2⟩ := HKN.out j h1 h2
      obtain ⟨b, off, rfl, hcell⟩ := HR.out (by omega)
      have hc := hcell j z hz1
      clear hcell
      have f1 : decide (j < len) = true := by simpa using h1
      have f2 : decide ((j : Int) < 60) = true := by simp; omega
      have f3 : decide ((j : Int) < len) = true := by simp; omega
      obtain ⟨k, ek, lk⟩ := lrem_nat z 8 (by omega)
      have hk8 : k < 8 := by omega
      rw [ek] at hz2
      have HP : ∀ W, Calls Tryd.prog 13 #[.int .i64 z, .int .i64 8] W fun e w' => e = .returned (.int .i64 (k : Int)) ∧ W = w' := fun W => by have := place_any z 8 W (by omega) (by omega); rw [ek] at this; exact this
      have HT := Lib.hid (lt_next ks j k hz2)
      have i1 := lt_S k hk8
      have i2 := lt_W k hk8
      have i3 := lt_B k hk8
      have i4 := lt_R k hk8
      have y1 : (⟨(pS k).toArray⟩ : ByteArray).size ≤ 6 := pS_len k
      have y2 : (⟨(pW k).toArray⟩ : ByteArray).size ≤ 6 := pW_len k
      have y3 : (⟨(pB k).toArray⟩ : ByteArray).size ≤ 6 := pB_len k
      have y4 : (⟨(pR k).toArray⟩ : ByteArray).size ≤ 6 := pR_len k
      have HS2 : Hid ((S ++ ⟨(pS k).toArray⟩).data.toList = tA (ks.take (j + 1))) := Lib.hid (by rw [app_list, HS.out, HT.out, tA_snoc])
      have HU2 : Hid ((U ++ ⟨(pW k).toArray⟩).data.toList = tW (ks.take (j + 1))) := Lib.hid (by rw [app_list, HU.out, HT.out, tW_snoc])
      have HX2 : Hid ((X ++ ⟨(pB k).toArray⟩ ++ ⟨#[46]⟩).data.toList = tB (ks.take (j + 1))) := Lib.hid (by rw [app_list, app_list, HX.out, HT.out, tB_snoc])
      have HB2 : Hid ((R ++ ⟨(pR k).toArray⟩ ++ ⟨#[46]⟩).data.toList = tR (ks.take (j + 1))) := Lib.hid (by rw [app_list, app_list, HB.out, HT.out, tR_snoc])
      have z3 : (X ++ ⟨(pB k).toArray⟩).size ≤ 430 := by rw [ByteArray.size_append]; omega
      have z4 : (R ++ ⟨(pR k).toArray⟩).size ≤ 430 := by rw [ByteArray.size_append]; omega
      clear hz1 hz2 ek lk HT HS HU HX HB
      generalize (⟨(pS k).toArray⟩ : ByteArray) = Y1 at *
      generalize (⟨(pW k).toArray⟩ : ByteArray) = Y2 at *
      generalize (⟨(pB k).toArray⟩ : ByteArray) = Y3 at *
      generalize (⟨(pR k).toArray⟩ : ByteArray) = Y4 at *
      go_wp2_with fail
      refine (HP _).mono ?_
      rintro e w' ⟨rfl, rfl⟩
      go_wp2_with fail
      go_round
      case rel => exact ⟨j + 1, _, _, _, _, by omega, by go_num, rfl, rfl, rfl, rfl, HS2, HU2, HX2, HB2⟩
      case measure => simp [intOf]; omega
    · have htk : ks.take j = ks := by rw [show j = ks.length by omega]; exact List.take_length
      rw [htk] at HS HU HX HB
      have hk60 : ks.length ≤ 60 := by omega
      obtain ⟨p, hA⟩ := lex_A ks hk60
      obtain ⟨q, hB⟩ := lex_B ks hk60
      have cA := fun W => lex_toks (s := S ++ ⟨#[34, 32, 53]⟩) (show lexP _ = _ by rw [app_list, HS.out]; exact hA) (by show 0 < 2; omega) W (by rw [ByteArray.size_append]; show _ + 3 ≤ _; omega)
      have cB := fun W => lex_toks (s := X ++ ⟨#[34, 34, 34, 123]⟩) (show lexP _ = _ by rw [app_list, HX.out]; exact hB) (by show 0 < 2; omega) W (by rw [ByteArray.size_append]; show _ + 4 ≤ _; omega)
      have eU := Lib.hid (ofL HU.out)
      have eR := Lib.hid (ofL HB.out)
      have f3 : (decide (j < len) && decide ((j : Int) < 60)) = false := by
        rw [Bool.and_eq_false_iff]
        by_cases h : j < len
        · exact .inr (decide_eq_false (by omega))
        · exact .inl (decide_eq_false h)
      have HF := Lib.hid f3
      clear hA hB HR HKN f3
      by_cases hjl : j < len
      · have f1 : decide (j < len) = true := by simpa using hjl
        have f2 : decide ((j : Int) < 60) = false := by simp; omega
        have f3 : decide ((j : Int) < len) = true := by simp; omega
        go_wp2_with fail
        refine (cA _).mono ?_
        rintro e w1 ⟨b1, g, cap1, rfl, hcap, hg1, hg2, hc⟩
        have c0 : w1.cell? ⟨g, 0, none⟩ = some (.int .i64 4) := hc 0 _ rfl
        have c1 : w1.cell? ⟨g, 1, none⟩ = some (.string U) := by rw [eU.out]; exact hc 1 _ rfl
        have c4 : w1.cell? ⟨g, 4, none⟩ = some (.string ⟨#[53]⟩) := hc 4 _ rfl
        have hcap2 : 2 ≤ cap1 := hcap
        clear hc hcap
        go_wp2_with fail
        refine (cB _).mono ?_
        rintro e w2 ⟨b2, g2, cap2, rfl, hcap, hg3, hg4, hc⟩
        have d0 : w2.cell? ⟨g2, 0, none⟩ = some (.int .i64 4) := hc 0 _ rfl
        have d1 : w2.cell? ⟨g2, 1, none⟩ = some (.string R) := by rw [eR.out]; exact hc 1 _ rfl
        have d4 : w2.cell? ⟨g2, 4, none⟩ = some (.string ⟨#[123]⟩) := hc 4 _ rfl
        have hcap3 : 2 ≤ cap2 := hcap
        have c0' := (b2.cell (p := ⟨g, 0, none⟩) hg2).trans c0
        have c1' := (b2.cell (p := ⟨g, 1, none⟩) hg2).trans c1
        have c4' := (b2.cell (p := ⟨g, 4, none⟩) hg2).trans c4
        clear hc hcap c0 c1 c4 eU eR cA cB
        go_wp2_with fail
        refine (lxAwake _).mono ?_
        rintro e w3 ⟨rfl, b3⟩
        go_wp2_with fail
        go_ret
        exact ⟨rfl, (b1.trans (b2.mono b1.size)).trans (b3.mono (by have := b1.size; have := b2.size; omega))⟩
      · have f1 : decide (j < len) = false := by simpa using hjl
        have f3 : decide ((j : Int) < len) = false := by simp; omega
        go_wp2_with fail
        refine (cA _).mono ?_
        rintro e w1 ⟨b1, g, cap1, rfl, hcap, hg1, hg2, hc⟩
        have c0 : w1.cell? ⟨g, 0, none⟩ = some (.int .i64 4) := hc 0 _ rfl
        have c1 : w1.cell? ⟨g, 1, none⟩ = some (.string U) := by rw [eU.out]; exact hc 1 _ rfl
        have c4 : w1.cell? ⟨g, 4, none⟩ = some (.string ⟨#[53]⟩) := hc 4 _ rfl
        have hcap2 : 2 ≤ cap1 := hcap
        clear hc hcap
        go_wp2_with fail
        refine (cB _).mono ?_
        rintro e w2 ⟨b2, g2, cap2, rfl, hcap, hg3, hg4, hc⟩
        have d0 : w2.cell? ⟨g2, 0, none⟩ = some (.int .i64 4) := hc 0 _ rfl
        have d1 : w2.cell? ⟨g2, 1, none⟩ = some (.string R) := by rw [eR.out]; exact hc 1 _ rfl
        have d4 : w2.cell? ⟨g2, 4, none⟩ = some (.string ⟨#[123]⟩) := hc 4 _ rfl
        have hcap3 : 2 ≤ cap2 := hcap
        have c0' := (b2.cell (p := ⟨g, 0, none⟩) hg2).trans c0
        have c1' := (b2.cell (p := ⟨g, 1, none⟩) hg2).trans c1
        have c4' := (b2.cell (p := ⟨g, 4, none⟩) hg2).trans c4
        clear hc hcap c0 c1 c4 eU eR cA cB
        go_wp2_with fail
        refine (lxAwake _).mono ?_
        rintro e w3 ⟨rfl, b3⟩
        go_wp2_with fail
        go_ret
        exact ⟨rfl, (b1.trans (b2.mono b1.size)).trans (b3.mono (by have := b1.size; have := b2.size; omega))⟩

end Go.Proofs.YtakmkhkbeabgcaaDoor
