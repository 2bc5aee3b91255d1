/-
  SdlKinds: its walk.
-/
import Derived.Test.YtkahnlgedacppaaGreatDoorMSn0
namespace Go.Proofs.YtkahnlgedacppaaGreatDoor
open Go.RowKit

def kStr (k : Nat) (N : ByteArray) : ByteArray := match k with
  | 0 => ⟨#[115, 99, 97, 108, 97, 114, 32]⟩ ++ N
  | 1 => ⟨#[116, 121, 112, 101, 32]⟩ ++ N ++ ⟨#[32, 105, 109, 112, 108, 101, 109, 101, 110, 116, 115, 32, 65, 38, 66, 123, 97, 58, 73, 110, 116, 125]⟩
  | 2 => ⟨#[105, 110, 116, 101, 114, 102, 97, 99, 101, 32]⟩ ++ N ++ ⟨#[123, 97, 40, 98, 58, 67, 61, 68, 41, 58, 91, 69, 33, 93, 33, 125]⟩
  | 3 => ⟨#[117, 110, 105, 111, 110, 32]⟩ ++ N ++ ⟨#[61, 65, 124, 66, 124, 67]⟩
  | 4 => ⟨#[101, 110, 117, 109, 32]⟩ ++ N ++ ⟨#[123, 65, 32, 66, 125]⟩
  | _ => ⟨#[105, 110, 112, 117, 116, 32]⟩ ++ N ++ ⟨#[123, 97, 58, 73, 110, 116, 61, 53, 32, 98, 58, 67, 125]⟩
theorem k_ix0 (N : ByteArray) (W : World) : (Instr.index 57 (.agg #[.string (⟨#[115, 99, 97, 108, 97, 114, 32]⟩ ++ N), .string (⟨#[116, 121, 112, 101, 32]⟩ ++ N ++ ⟨#[32, 105, 109, 112, 108, 101, 109, 101, 110, 116, 115, 32, 65, 38, 66, 123, 97, 58, 73, 110, 116, 125]⟩), .string (⟨#[105, 110, 116, 101, 114, 102, 97, 99, 101, 32]⟩ ++ N ++ ⟨#[123, 97, 40, 98, 58, 67, 61, 68, 41, 58, 91, 69, 33, 93, 33, 125]⟩), .string (⟨#[117, 110, 105, 111, 110, 32]⟩ ++ N ++ ⟨#[61, 65, 124, 66, 124, 67]⟩), .string (⟨#[101, 110, 117, 109, 32]⟩ ++ N ++ ⟨#[123, 65, 32, 66, 125]⟩), .string (⟨#[105, 110, 112, 117, 116, 32]⟩ ++ N ++ ⟨#[123, 97, 58, 73, 110, 116, 61, 53, 32, 98, 58, 67, 125]⟩)]) (.int .i64 ((0 : Nat) : Int))).run Tryz.prog W = .ok (.string (kStr 0 N)) W := by kernel_rfl
theorem k_ix1 (N : ByteArray) (W : World) : (Instr.index 57 (.agg #[.string (⟨#[115, 99, 97, 108, 97, 114, 32]⟩ ++ N), .string (⟨#[116, 121, 112, 101, 32]⟩ ++ N ++ ⟨#[32, 105, 109, 112, 108, 101, 109, 101, 110, 116, 115, 32, 65, 38, 66, 123, 97, 58, 73, 110, 116, 125]⟩), .string (⟨#[105, 110, 116, 101, 114, 102, 97, 99, 101, 32]⟩ ++ N ++ ⟨#[123, 97, 40, 98, 58, 67, 61, 68, 41, 58, 91, 69, 33, 93, 33, 125]⟩), .string (⟨#[117, 110, 105, 111, 110, 32]⟩ ++ N ++ ⟨#[61, 65, 124, 66, 124, 67]⟩), .string (⟨#[101, 110, 117, 109, 32]⟩ ++ N ++ ⟨#[123, 65, 32, 66, 125]⟩), .string (⟨#[105, 110, 112, 117, 116, 32]⟩ ++ N ++ ⟨#[123, 97, 58, 73, 110, 116, 61, 53, 32, 98, 58, 67, 125]⟩)]) (.int .i64 ((1 : Nat) : Int))).run Tryz.prog W = .ok (.string (kStr 1 N)) W := by kernel_rfl
theorem k_ix2 (N : ByteArray) (W : World) : (Instr.index 57 (.agg #[.string (⟨#[115, 99, 97, 108, 97, 114, 32]⟩ ++ N), .string (⟨#[116, 121, 112, 101, 32]⟩ ++ N ++ ⟨#[32, 105, 109, 112, 108, 101, 109, 101, 110, 116, 115, 32, 65, 38, 66, 123, 97, 58, 73, 110, 116, 125]⟩), .string (⟨#[105, 110, 116, 101, 114, 102, 97, 99, 101, 32]⟩ ++ N ++ ⟨#[123, 97, 40, 98, 58, 67, 61, 68, 41, 58, 91, 69, 33, 93, 33, 125]⟩), .string (⟨#[117, 110, 105, 111, 110, 32]⟩ ++ N ++ ⟨#[61, 65, 124, 66, 124, 67]⟩), .string (⟨#[101, 110, 117, 109, 32]⟩ ++ N ++ ⟨#[123, 65, 32, 66, 125]⟩), .string (⟨#[105, 110, 112, 117, 116, 32]⟩ ++ N ++ ⟨#[123, 97, 58, 73, 110, 116, 61, 53, 32, 98, 58, 67, 125]⟩)]) (.int .i64 ((2 : Nat) : Int))).run Tryz.prog W = .ok (.string (kStr 2 N)) W := by kernel_rfl
theorem k_ix3 (N : ByteArray) (W : World) : (Instr.index 57 (.agg #[.string (⟨#[115, 99, 97, 108, 97, 114, 32]⟩ ++ N), .string (⟨#[116, 121, 112, 101, 32]⟩ ++ N ++ ⟨#[32, 105, 109, 112, 108, 101, 109, 101, 110, 116, 115, 32, 65, 38, 66, 123, 97, 58, 73, 110, 116, 125]⟩), .string (⟨#[105, 110, 116, 101, 114, 102, 97, 99, 101, 32]⟩ ++ N ++ ⟨#[123, 97, 40, 98, 58, 67, 61, 68, 41, 58, 91, 69, 33, 93, 33, 125]⟩), .string (⟨#[117, 110, 105, 111, 110, 32]⟩ ++ N ++ ⟨#[61, 65, 124, 66, 124, 67]⟩), .string (⟨#[101, 110, 117, 109, 32]⟩ ++ N ++ ⟨#[123, 65, 32, 66, 125]⟩), .string (⟨#[105, 110, 112, 117, 116, 32]⟩ ++ N ++ ⟨#[123, 97, 58, 73, 110, 116, 61, 53, 32, 98, 58, 67, 125]⟩)]) (.int .i64 ((3 : Nat) : Int))).run Tryz.prog W = .ok (.string (kStr 3 N)) W := by kernel_rfl
theorem k_ix4 (N : ByteArray) (W : World) : (Instr.index 57 (.agg #[.string (⟨#[115, 99, 97, 108, 97, 114, 32]⟩ ++ N), .string (⟨#[116, 121, 112, 101, 32]⟩ ++ N ++ ⟨#[32, 105, 109, 112, 108, 101, 109, 101, 110, 116, 115, 32, 65, 38, 66, 123, 97, 58, 73, 110, 116, 125]⟩), .string (⟨#[105, 110, 116, 101, 114, 102, 97, 99, 101, 32]⟩ ++ N ++ ⟨#[123, 97, 40, 98, 58, 67, 61, 68, 41, 58, 91, 69, 33, 93, 33, 125]⟩), .string (⟨#[117, 110, 105, 111, 110, 32]⟩ ++ N ++ ⟨#[61, 65, 124, 66, 124, 67]⟩), .string (⟨#[101, 110, 117, 109, 32]⟩ ++ N ++ ⟨#[123, 65, 32, 66, 125]⟩), .string (⟨#[105, 110, 112, 117, 116, 32]⟩ ++ N ++ ⟨#[123, 97, 58, 73, 110, 116, 61, 53, 32, 98, 58, 67, 125]⟩)]) (.int .i64 ((4 : Nat) : Int))).run Tryz.prog W = .ok (.string (kStr 4 N)) W := by kernel_rfl
theorem k_ix5 (N : ByteArray) (W : World) : (Instr.index 57 (.agg #[.string (⟨#[115, 99, 97, 108, 97, 114, 32]⟩ ++ N), .string (⟨#[116, 121, 112, 101, 32]⟩ ++ N ++ ⟨#[32, 105, 109, 112, 108, 101, 109, 101, 110, 116, 115, 32, 65, 38, 66, 123, 97, 58, 73, 110, 116, 125]⟩), .string (⟨#[105, 110, 116, 101, 114, 102, 97, 99, 101, 32]⟩ ++ N ++ ⟨#[123, 97, 40, 98, 58, 67, 61, 68, 41, 58, 91, 69, 33, 93, 33, 125]⟩), .string (⟨#[117, 110, 105, 111, 110, 32]⟩ ++ N ++ ⟨#[61, 65, 124, 66, 124, 67]⟩), .string (⟨#[101, 110, 117, 109, 32]⟩ ++ N ++ ⟨#[123, 65, 32, 66, 125]⟩), .string (⟨#[105, 110, 112, 117, 116, 32]⟩ ++ N ++ ⟨#[123, 97, 58, 73, 110, 116, 61, 53, 32, 98, 58, 67, 125]⟩)]) (.int .i64 ((5 : Nat) : Int))).run Tryz.prog W = .ok (.string (kStr 5 N)) W := by kernel_rfl
theorem k_ix {k : Nat} (hk : k < 6) (N : ByteArray) (W : World) : (Instr.index 57 (.agg #[.string (⟨#[115, 99, 97, 108, 97, 114, 32]⟩ ++ N), .string (⟨#[116, 121, 112, 101, 32]⟩ ++ N ++ ⟨#[32, 105, 109, 112, 108, 101, 109, 101, 110, 116, 115, 32, 65, 38, 66, 123, 97, 58, 73, 110, 116, 125]⟩), .string (⟨#[105, 110, 116, 101, 114, 102, 97, 99, 101, 32]⟩ ++ N ++ ⟨#[123, 97, 40, 98, 58, 67, 61, 68, 41, 58, 91, 69, 33, 93, 33, 125]⟩), .string (⟨#[117, 110, 105, 111, 110, 32]⟩ ++ N ++ ⟨#[61, 65, 124, 66, 124, 67]⟩), .string (⟨#[101, 110, 117, 109, 32]⟩ ++ N ++ ⟨#[123, 65, 32, 66, 125]⟩), .string (⟨#[105, 110, 112, 117, 116, 32]⟩ ++ N ++ ⟨#[123, 97, 58, 73, 110, 116, 61, 53, 32, 98, 58, 67, 125]⟩)]) (.int .i64 (k : Int))).run Tryz.prog W = .ok (.string (kStr k N)) W := by
  match k, hk with
  | 0, _ => exact k_ix0 N W
  | 1, _ => exact k_ix1 N W
  | 2, _ => exact k_ix2 N W
  | 3, _ => exact k_ix3 N W
  | 4, _ => exact k_ix4 N W
  | 5, _ => exact k_ix5 N W
theorem kStr_list {i k : Nat} (hk : k < 6) : (kStr k (⟨#[84]⟩ ++ ⟨(dgs 2 i).toArray⟩)).data.toList ++ [32] = kSg i k := by
  match k, hk with
  | 0, _ | 1, _ | 2, _ | 3, _ | 4, _ | 5, _ =>
    unfold kStr kSg kNm kPre kPost
    simp only [ByteArray.data_append, Array.toList_append, List.append_assoc, List.nil_append, List.cons_append]
theorem kStr_size {k : Nat} (hk : k < 6) (N : ByteArray) (hN : N.size ≤ 3) : (kStr k N).size ≤ 60 := by
  match k, hk with
  | 0, _ => unfold kStr; simp only [ByteArray.size_append]; show 7 + N.size ≤ 60; omega
  | 1, _ => unfold kStr; simp only [ByteArray.size_append]; show 5 + N.size + 22 ≤ 60; omega
  | 2, _ => unfold kStr; simp only [ByteArray.size_append]; show 10 + N.size + 16 ≤ 60; omega
  | 3, _ => unfold kStr; simp only [ByteArray.size_append]; show 6 + N.size + 6 ≤ 60; omega
  | 4, _ => unfold kStr; simp only [ByteArray.size_append]; show 5 + N.size + 5 ≤ 60; omega
  | 5, _ => unfold kStr; simp only [ByteArray.size_append]; show 6 + N.size + 13 ≤ 60; omega
def kVals (ks : List Nat) : List Value := ks.map fun (k : Nat) => .int .i64 (1 + (k : Int))
theorem infoK : ∃ i, Tryz.prog.info? 3 = some i ∧ i.zero = some (.int .i64 0) ∧ i.size = 1 ∧ i.bytes = 8 :=
  info_parts (by kernel_rfl)
/-- A row of one cell each, as a later call finds it. -/
def KRow (w : World) (a : Option Addr) (xs : List Value) : Prop := 0 < xs.length → ∃ g, a = some ⟨g, 0, none⟩ ∧ ∀ j u, xs[j]? = some u → w.cell? ⟨g, j, none⟩ = some u
theorem kRow_of {w : World} {B n : Nat} {T : TypeId} {v : Value} {xs : List Value} (h : w.ownsRow B T 1 v n xs) (hn : n = xs.length) : ∃ a cap, v = .slice a n cap ∧ n ≤ cap ∧ ∀ w', Below w.heap.size w w' → KRow w' a xs := by
  rcases h.2 with ⟨hv, h0⟩ | ⟨g, cap, cur, hv, hB, hg, hcap, _⟩
  · exact ⟨none, 0, by rw [hv, h0], by omega, fun _ _ h' => absurd h' (by omega)⟩
  · refine ⟨some ⟨g, 0, none⟩, cap, hv, hcap, fun w' hb _ => ⟨g, rfl, fun j u hj => ?_⟩⟩
    have := (own_below h hb).cells (g := g) (by rw [hv]; rfl) j u hj
    have e : (⟨g, 0, none⟩ : Addr).add j = ⟨g, j, none⟩ := by cases j <;> simp [Addr.add]
    rwa [e] at this
/-- The kinds asked for. -/
def kOf (zs : List Int) : List Nat := (zs.take 20).map fun z => (z % 6).toNat
theorem kOf_lt (zs : List Int) : ∀ k ∈ kOf zs, k < 6 := by
  intro k h
  obtain ⟨z, _, rfl⟩ := List.mem_map.1 h
  have h1 := Int.emod_nonneg z (show (6 : Int) ≠ 0 by omega)
  have h2 := Int.emod_lt_of_pos z (show (0 : Int) < 6 by omega)
  omega
theorem kOf_at {zs : List Int} {j : Nat} {z : Int} (h : zs[j]? = some z) (hj : j < 20) : (kOf zs)[j]? = some (z % 6).toNat := by
  unfold kOf
  rw [List.getElem?_map, List.getElem?_take_of_lt hj, h]
  rfl
theorem kOf_len (zs : List Int) : (kOf zs).length = min 20 zs.length := by
  unfold kOf
  rw [List.length_map, List.length_take]

theorem kTys_at : ∀ (ks : List Nat) (a i k : Nat), ks[i]? = some k → (kTys a ks)[i]? = some (kTy k (kNm (a + i)))
  | [], _, i, k, h => by cases h
  | x :: r, a, 0, k, h => by
    injection h with h
    subst h
    rfl
  | x :: r, a, i + 1, k, h => by
    have := kTys_at r (a + 1) i k h
    rw [show a + 1 + i = a + (i + 1) by omega] at this
    exact this
theorem kTys_len : ∀ (ks : List Nat) (a : Nat), (kTys a ks).length = ks.length
  | [], _ => rfl
  | x :: r, a => by
    show (kTys (a + 1) r).length + 1 = r.length + 1
    rw [kTys_len r (a + 1)]
/-- The cells of a definition; of its parts what is asked for. -/
def KAt (w : World) (M : Nat → Prop) (k : Nat) (vn vf vi : Value) : Prop := match k with
  | 0 => True
  | 1 => (∃ a c, vn = .slice a 2 c) ∧ ∃ a c, vf = .slice a 1 c
  | 2 => ∃ g off c g2 off2 c2, vf = .slice (some ⟨g, off, none⟩) 1 c ∧ 1 ≤ c ∧ 1 ≤ c2 ∧ M g ∧ M g2 ∧ w.cell? ⟨g, off + 1, none⟩ = some (.slice (some ⟨g2, off2, none⟩) 1 c2) ∧ w.cell? ⟨g, off + 3, none⟩ = some (.string ⟨#[33, 93, 33]⟩) ∧ w.cell? ⟨g2, off2 + 4, none⟩ = some (.string ⟨#[68]⟩)
  | 3 => ∃ a c, vn = .slice a 3 c
  | 4 => ∃ g off c, vn = .slice (some ⟨g, off, none⟩) 2 c ∧ 2 ≤ c ∧ M g ∧ w.cell? ⟨g, off + 1, none⟩ = some (.string ⟨#[66]⟩)
  | _ => ∃ g off c, vi = .slice (some ⟨g, off, none⟩) 2 c ∧ 2 ≤ c ∧ M g ∧ w.cell? ⟨g, off + 4, none⟩ = some (.string ⟨#[53]⟩) ∧ w.cell? ⟨g, off + 7 + 3, none⟩ = some (.int .i64 0)
theorem kat_of {w : World} {M : Nat → Prop} {k : Nat} (hk : k < 6) {N : List UInt8} {vn vf vi : Value} (h1 : RowD StrE 1 w M (kTy k N).names vn) (h2 : RowD FldE 5 w M (kTy k N).flds vf) (h3 : RowD VarE 7 w M (kTy k N).ins vi) : KAt w M k vn vf vi := by
  match k, hk with
  | 0, _ => trivial
  | 1, _ => exact ⟨h1.shape, h2.shape⟩
  | 2, _ =>
    obtain ⟨a, c, rfl, -, hc, hr⟩ := h2
    obtain ⟨g, off, rfl, hg, hel⟩ := hr (Nat.succ_pos _)
    obtain ⟨cs, hl, hcs, hE⟩ := hel 0 _ rfl
    obtain ⟨_, va, rfl, hva⟩ := hE
    obtain ⟨a3, c3, rfl, -, hc3, hr3⟩ := hva
    obtain ⟨g3, off3, rfl, hg3, hel3⟩ := hr3 (Nat.succ_pos _)
    obtain ⟨cs3, hl3, hcs3, hE3⟩ := hel3 0 _ rfl
    obtain ⟨_, y0, y1, y2, y3, rfl, hy⟩ := hE3
    obtain ⟨an, cn, ap, cp, ey⟩ := hy.shape
    injection ey with ey
    have ey' := congrArg Array.toList ey
    simp at ey'
    obtain ⟨-, rfl, -, -⟩ := ey'
    have m1 := hcs 1 _ rfl
    have m3 := hcs 3 _ rfl
    have n4 := hcs3 4 _ rfl
    rw [Nat.zero_mul, Nat.add_zero] at m1 m3 n4
    exact ⟨g, off, c, g3, off3, c3, rfl, hc, hc3, hg, hg3, m1, m3, n4⟩
  | 3, _ => exact h1.shape
  | 4, _ =>
    obtain ⟨a, c, rfl, -, hc, hr⟩ := h1
    obtain ⟨g, off, rfl, hg, hel⟩ := hr (Nat.succ_pos _)
    obtain ⟨cs, hl, hcs, hE⟩ := hel 1 _ rfl
    obtain ⟨_, rfl⟩ := hE
    have m1 := hcs 0 _ rfl
    rw [Nat.one_mul] at m1
    exact ⟨g, off, c, rfl, hc, hg, m1⟩
  | 5, _ =>
    obtain ⟨a, c, rfl, -, hc, hr⟩ := h3
    obtain ⟨g, off, rfl, hg, hel⟩ := hr (Nat.succ_pos _)
    obtain ⟨cs, hl, hcs, hE⟩ := hel 0 _ rfl
    obtain ⟨_, y0, y1, y2, y3, rfl, hy⟩ := hE
    obtain ⟨an, cn, ap, cp, ey⟩ := hy.shape
    injection ey with ey
    have ey' := congrArg Array.toList ey
    simp at ey'
    obtain ⟨-, rfl, -, -⟩ := ey'
    obtain ⟨cs', hl', hcs', hE'⟩ := hel 1 _ rfl
    obtain ⟨_, z0, z1, z2, z3, rfl, hz⟩ := hE'
    obtain ⟨an', cn', ap', cp', ez⟩ := hz.shape
    injection ez with ez
    have ez' := congrArg Array.toList ez
    simp at ez'
    obtain ⟨rfl, -, -, -⟩ := ez'
    have m4 := hcs 4 _ rfl
    have n3 := hcs' 3 _ rfl
    rw [Nat.zero_mul, Nat.add_zero] at m4
    rw [Nat.one_mul] at n3
    exact ⟨g, off, c, rfl, hc, hg, m4, n3⟩

theorem eN (i : Nat) : (⟨(kNm i).toArray⟩ : ByteArray) = ⟨#[84]⟩ ++ ⟨(dgs 2 i).toArray⟩ := by
  apply ByteArray.ext
  rw [ByteArray.data_append]
  unfold kNm
  simp

set_option maxHeartbeats 8000000 in
set_option maxRecDepth 100000 in
theorem sdlKinds_walk (a : Option Addr) (len cap : Nat) (zs : List Int) (w : World) (hz : zs.length = len) (_hl : len ≤ maxLen) (hr : 0 < len → ∃ b off, a = some ⟨b, off, none⟩ ∧ ∀ i z, zs[i]? = some z → w.cell? ⟨b, off + i, none⟩ = some (.int .i64 z)) (hev : EvOk w) : Calls Tryz.prog 7 #[.slice a len cap] w (TrueBelow w) := by
  have HEV := Lib.hid hev
  have HR := Lib.hid hr
  have HZ := Lib.hid hz
  have hml : len ≤ 140737488355328 ∨ 140737488355328 < len := by omega
  have hkl := kOf_len zs
  rw [hz] at hkl
  have HKL := Lib.hid hkl
  have HKT := Lib.hid (kOf_lt zs)
  have hm20 : (kOf zs).length ≤ 20 := by omega
  have HRD := Lib.hid (kinds_read (kOf zs) hm20 HKT.out)
  have hmax : len ≤ 9223372036854775807 := by unfold maxLen at _hl; omega
  obtain ⟨i0, hi, hz0, hz1, hz2⟩ := infoK
  have HI0 := Lib.hid hi
  have HZ0 := Lib.hid hz0
  have HZ1 := Lib.hid hz1
  have HZ2 := Lib.hid hz2
  clear hi hz0 hz1 hz2 hr hz hev hkl hml _hl
  generalize hKS : kOf zs = ks at *
  have HKS := Lib.hid hKS
  clear hKS
  go_enter Tryz.func7, Tryz.ntmps7
  go_wp2_with fail
  go_loopg [3, 4, 5, 6, 7] ks.length (fun q v3 v4 v5 _ _ wr => ∃ (j : Nat) (S : ByteArray), v3 = .string S ∧ v5 = .int .i64 (j : Int) ∧ j ≤ ks.length ∧ q = ks.length - j ∧ Hid (S.data.toList = kTx 0 (ks.take j)) ∧ S.size ≤ 60 * j ∧ wr.ownsRow w.heap.size 3 1 v4 j (kVals (ks.take j)) ∧ Below w.heap.size w wr)
  case atStart => exact ⟨0, ⟨#[]⟩, rfl, rfl, Nat.zero_le _, rfl, Lib.hid rfl, Nat.le_refl _, World.ownsRow_nil _ _ _ _, Below.refl _ _⟩
  case round =>
    obtain ⟨j, S, rfl, rfl, hj, hq, HS, hsz, hown, hb⟩ := hrel
    have HB := Lib.hid hb
    have HOW := Lib.hid hown
    have hw : IntKind.i64.wrap ((j : Int) + 1) = (j : Int) + 1 := IntWalk.i64_in _ (by omega)
    by_cases hlt : j < ks.length
    · have hj20 : j < 20 := by omega
      have hjl : j < len := by have := HKL.out; omega
      have hd : decide ((j : Int) < (len : Int)) = true := decide_eq_true (by omega)
      have hd2 : decide ((j : Int) < 20) = true := decide_eq_true (by omega)
      have hd3 : decide (j < len) = true := decide_eq_true hjl
      obtain ⟨b, off, rfl, hc⟩ := HR.out (by omega)
      obtain ⟨z, hzj⟩ : ∃ z, zs[j]? = some z := ⟨zs[j]'(by have := HZ.out; omega), List.getElem?_eq_getElem _⟩
      have hcell0 := hc j z hzj
      have hcell : wr.cell? ⟨b, off + j, none⟩ = some (.int .i64 z) := (World.cell?_of_block (hb.block _ (cell_lt hcell0))).trans hcell0
      have hkj := kOf_at hzj hj20
      rw [HKS.out] at hkj
      obtain ⟨k, ek, hk⟩ : ∃ k : Nat, z % 6 = (k : Int) ∧ ks[j]? = some k := by
        refine ⟨(z % 6).toNat, ?_, hkj⟩
        have h1 := Int.emod_nonneg z (show (6 : Int) ≠ 0 by omega)
        omega
      have hk6 : k < 6 := HKT.out k (List.mem_of_getElem? hk)
      have HP : ∀ W, Calls Tryz.prog 19 #[.int .i64 z, .int .i64 6] W fun e w' => e = .returned (.int .i64 (k : Int)) ∧ W = w' := fun W => by have := place_any z 6 W (by omega) (by omega); rw [ek] at this; exact this
      have HDG := fun W => lawDigits_any 2 j W (by omega) (by decide) (by decide)
      have hix := fun W => k_ix hk6 (⟨#[84]⟩ ++ ⟨(dgs 2 j).toArray⟩) W
      have hdz : (⟨(dgs 2 j).toArray⟩ : ByteArray).size ≤ 2 := dgs_len 2 j
      have hxz : (kStr k (⟨#[84]⟩ ++ ⟨(dgs 2 j).toArray⟩)).size ≤ 60 := kStr_size hk6 _ (by rw [ByteArray.size_append]; show 1 + _ ≤ 3; omega)
      have htk : ks.take (j + 1) = ks.take j ++ [k] := by rw [List.take_add_one, hk]; rfl
      have HS2 := Lib.hid (show ((S ++ kStr k (⟨#[84]⟩ ++ ⟨(dgs 2 j).toArray⟩)) ++ ⟨#[32]⟩ : ByteArray).data.toList = kTx 0 (ks.take (j + 1)) by
        rw [htk, kTx_snoc, ByteArray.data_append, Array.toList_append, ByteArray.data_append, Array.toList_append, HS.out, List.append_assoc]
        rw [show 0 + (ks.take j).length = j by rw [List.length_take]; omega]
        exact congrArg _ (kStr_list hk6))
      have HZ2S := Lib.hid (show (kSg j k).length ≤ 60 by obtain ⟨_, _, _, _, _, h⟩ := sg_ok hj20 hk6; exact h)
      have HXL := Lib.hid (show (kStr k (⟨#[84]⟩ ++ ⟨(dgs 2 j).toArray⟩)).size + 1 ≤ 60 by
        have h := congrArg List.length (kStr_list (i := j) hk6)
        have h2 := HZ2S.out
        rw [List.length_append] at h
        have e : (kStr k (⟨#[84]⟩ ++ ⟨(dgs 2 j).toArray⟩)).data.toList.length = (kStr k (⟨#[84]⟩ ++ ⟨(dgs 2 j).toArray⟩)).size := rfl
        rw [e] at h
        have h3 : ([32] : List UInt8).length = 1 := rfl
        omega)
      have HTK := Lib.hid htk
      clear hc hcell0 hzj hkj ek hk htk hb hown
      generalize kStr k (⟨#[84]⟩ ++ ⟨(dgs 2 j).toArray⟩) = X at *
      generalize (⟨(dgs 2 j).toArray⟩ : ByteArray) = DG at *
      go_wp2_with fail
      with_reducible refine (HP _).mono ?_
      rintro e w1 ⟨rfl, rfl⟩
      go_wp2_with fail
      refine (HDG _).mono ?_
      rintro e w2 ⟨rfl, mm, rfl⟩
      have hown := ownsRow_block (w' := wr.drewN mm) HOW.out (fun g _ => rfl)
      have hsz2 : w.heap.size ≤ (wr.drewN mm).heap.size := HB.out.size
      have hsz3 : w.heap.size ≤ wr.heap.size := HB.out.size
      have HB2 := Lib.hid (below_drewN HB.out mm)
      go_wp2_with (at_builtin; refine wpList_append_own _ rfl _ _ 56 rfl w.heap.size 3 i0 (.int .i64 0) 1 8 Tryz.underlying56 HI0.out HZ0.out HZ1.out HZ2.out rfl (by decide) _ _ _ rfl (hown.alloc _) ⟨wr.heap.size, 0, none⟩ 1 1 [.int .i64 (1 + (k : Int))] rfl rfl ?c1 ?c2 ?c3 ?c4 ?c5 ?_)
      case c1 => exact cell_one_new _ _ _
      case c2 => intro u hu; simp at hu; subst hu; rfl
      case c3 => unfold maxLen; omega
      case c4 => omega
      case c5 => first | omega | (simp; omega)
      intro v' w5 hown' hgrow _
      have hbw5 : Below w.heap.size w w5 := (HB2.out.alloc hsz2 _).grown hgrow (by simp; omega) (fun k hk => by have := (hown.lt k hk).1; omega)
      have HOWN := Lib.hid hown'
      clear hown' hgrow
      go_wp2_with fail
      go_roundg (ks.length - (j + 1))
      case measure => omega
      case rel =>
        refine ⟨j + 1, (S ++ X) ++ ⟨#[32]⟩, rfl, by go_num, by omega, rfl, HS2, ?_, ?_, hbw5⟩
        · rw [ByteArray.size_append, ByteArray.size_append]
          show S.size + X.size + 1 ≤ _
          have := HXL.out
          omega
        · have e : kVals (ks.take (j + 1)) = kVals (ks.take j) ++ [.int .i64 (1 + (k : Int))] := by rw [HTK.out]; simp [kVals]
          rw [e]
          exact HOWN.out
    · obtain rfl : j = ks.length := by omega
      rename World => wO
      have hcase : (decide ((ks.length : Int) < (len : Int)) = true ∧ decide (ks.length < len) = true ∧ decide ((ks.length : Int) < 20) = false) ∨ (decide ((ks.length : Int) < (len : Int)) = false ∧ decide (ks.length < len) = false) := by
        have := HKL.out
        by_cases h : ks.length < len
        · exact .inl ⟨decide_eq_true (by omega), decide_eq_true h, decide_eq_false (by omega)⟩
        · exact .inr ⟨decide_eq_false (by omega), decide_eq_false h⟩
      obtain ⟨mu, r1, r2, r3⟩ := HRD.out
      have hS : S.data.toList = kTx 0 ks := by rw [HS.out, List.take_length]
      rw [← hS] at r1 r2 r3
      have HP := sparse_any S wO (by omega) r2 r3 (EvOk.below hb HEV.out)
      rw [r1] at HP
      rw [List.take_length] at hown
      obtain ⟨ka, kc, ekv, hkc, hkr⟩ := kRow_of hown (by simp [kVals])
      have HKR := Lib.hid hkr
      clear r1 r2 r3 hS hown hkr hb hq HRD HS HOW
      subst ekv
      rcases hcase with ⟨c1, c2, c3⟩ | ⟨c1, c2⟩
      all_goals
        go_wp2_with fail
        refine HP.mono ?_
        rintro e w1 ⟨vt, rfl, hrow, b1⟩
        dsimp only at hrow
        obtain ⟨ta, tc, rfl, htl, htc, htr⟩ := hrow
        rw [kTys_len] at htc htr
        have HTR := Lib.hid htr
        have HTN := Lib.hid (kTys_len ks 0)
        have hb1 := HB.out.trans (b1.mono HB.out.size)
        have HB1 := Lib.hid hb1
        have HB1R := Lib.hid b1
        have hd5 : decide ((ks.length : Int) = (ks.length : Int)) = true := decide_eq_true rfl
        clear htr htl b1 hb1
        rw [HTN.out]
        unfold queryN
        go_wp2_with fail
        generalize hSC : Obj.cells #[.string ⟨#[81, 117, 101, 114, 121]⟩, .string ⟨mu.toArray⟩, .slice ta ks.length tc] 30 = sc at *
        have HSC := Lib.hid hSC
        clear hSC
        have hA1 : Below w1.heap.size w1 (w1.alloc sc) := (Below.refl _ _).alloc (Nat.le_refl _) _
        have hAX : (w1.alloc sc).heap[w1.heap.size]? = some sc := heap_alloc_new _ _
        have HAZ : Hid ((w1.alloc sc).heap.size = w1.heap.size + 1) := Lib.hid (by simp)
        have HA1 := Lib.hid hA1
        have HAX := Lib.hid hAX
        clear hA1 hAX
        generalize w1.alloc sc = wA at *
        go_loopg [11, 12, 13] ks.length (fun q v11 _ _ wr => ∃ i : Nat, v11 = .int .i64 (i : Int) ∧ i ≤ ks.length ∧ q = ks.length - i ∧ Below wA.heap.size wA wr)
        case atStart => exact ⟨0, rfl, Nat.zero_le _, rfl, Below.refl _ _⟩
        case round =>
          obtain ⟨i, rfl, hi, hq, hb2⟩ := hrel
          have HB2 := Lib.hid hb2
          have hw2 : IntKind.i64.wrap ((i : Int) + 1) = (i : Int) + 1 := IntWalk.i64_in _ (by omega)
          have hsc : wr.heap[w1.heap.size]? = some sc := (hb2.block _ (by rw [HAZ.out]; omega)).trans HAX.out
          rw [← HSC.out] at hsc
          have q2 : wr.cell? ⟨w1.heap.size, 2, none⟩ = some (.slice ta ks.length tc) := by simp [World.cell?, hsc]
          have q0 : wr.cell? ⟨w1.heap.size, 0, none⟩ = some (.string ⟨#[81, 117, 101, 114, 121]⟩) := by simp [World.cell?, hsc]
          clear hsc
          by_cases hlt2 : i < ks.length
          · have hdi : decide ((i : Int) < (ks.length : Int)) = true := decide_eq_true (by omega)
            have hdi2 : decide (i < ks.length) = true := decide_eq_true hlt2
            obtain ⟨k, hk⟩ : ∃ k, ks[i]? = some k := ⟨ks[i], List.getElem?_eq_getElem hlt2⟩
            have hk6 : k < 6 := HKT.out k (List.mem_of_getElem? hk)
            obtain ⟨tg, toff, rfl, htg, htel⟩ := HTR.out (by omega)
            have hty := kTys_at ks 0 i k hk
            rw [Nat.zero_add] at hty
            obtain ⟨cs, -, hcs, hE⟩ := htel i _ hty
            obtain ⟨_, vn, vf, vi, rfl, hn, hf, hv⟩ := hE
            have hbb : Below w1.heap.size w1 wr := HA1.out.trans (hb2.mono (by rw [HAZ.out]; omega))
            have ste : ∀ b o, (wO.heap.size ≤ b ∧ b < w1.heap.size) → wr.cell? ⟨b, o, none⟩ = w1.cell? ⟨b, o, none⟩ := fun b o h => World.cell?_of_block (hbb.block b h.2)
            have hK := kat_of (N := kNm i) hk6 (RowD.step strOk (fun b h => h) ste hn) (RowD.step fldOk (fun b h => h) ste hf) (RowD.step varOk (fun b h => h) ste hv)
            have t0 := (ste tg _ htg).trans (hcs 0 _ rfl)
            have t1 := (ste tg _ htg).trans (hcs 1 _ rfl)
            have t2 := (ste tg _ htg).trans (hcs 2 _ rfl)
            have t3 := (ste tg _ htg).trans (hcs 3 _ rfl)
            have t4 := (ste tg _ htg).trans (hcs 4 _ rfl)
            obtain ⟨kg, eka, hkc2⟩ := HKR.out wr (HB1R.out.trans (hbb.mono HB1R.out.size)) (by simp [kVals]; omega)
            subst eka
            have t5 := hkc2 i (.int .i64 (1 + (k : Int))) (by simp [kVals, hk])
            have htgl : tg < wr.heap.size := Nat.lt_of_lt_of_le htg.2 hbb.size
            have hkgl : kg < wr.heap.size := cell_lt t5
            rw [Nat.add_zero] at t0
            have hNm : (kTy k (kNm i)).nm = kNm i := by
              match k, hk6 with
              | 0, _ | 1, _ | 2, _ | 3, _ | 4, _ | 5, _ => rfl
            have hKd : ((kTy k (kNm i)).k : Int) = 1 + (k : Int) := by
              match k, hk6 with
              | 0, _ | 1, _ | 2, _ | 3, _ | 4, _ | 5, _ => rfl
            rw [hNm, eN i] at t1
            rw [hKd] at t0
            have HDG := fun W => lawDigits_any 2 i W (by omega) (by decide) (by decide)
            have hdz : (⟨(dgs 2 i).toArray⟩ : ByteArray).size ≤ 2 := dgs_len 2 i
            have tgl := htg.2
            have hbz : w1.heap.size ≤ wr.heap.size := hbb.size
            obtain ⟨na, nc, en⟩ := hn.shape
            obtain ⟨fa, fc, ef⟩ := hf.shape
            obtain ⟨va, vc, ev⟩ := hv.shape
            subst en ef ev
            clear hn hf hv hcs hty ste htel hkc2 hbb hk hNm hKd htg
            generalize (⟨(dgs 2 i).toArray⟩ : ByteArray) = DG at *
            match k, hk6 with
            | 0, _ =>
              rw [show (kTy 0 (kNm i)).names.length = 0 from rfl] at t2
              rw [show (kTy 0 (kNm i)).flds.length = 0 from rfl] at t3
              rw [show (kTy 0 (kNm i)).ins.length = 0 from rfl] at t4
              rw [show (1 + ((0 : Nat) : Int)) = 1 from rfl] at t0 t5
              clear hK
              go_upto_region 17 with fail
              go_quiet ((go_at_call 20; exact Calls.quiet_of (HDG _)))
              go_wp2_with fail
              go_roundg (ks.length - (i + 1))
              case measure => omega
              case rel => exact ⟨i + 1, by go_num, by omega, rfl, below_drewN (HB2.out.alloc HB2.out.size _) _⟩
            | 1, _ =>
              rw [show (kTy 1 (kNm i)).names.length = 2 from rfl] at t2
              rw [show (kTy 1 (kNm i)).flds.length = 1 from rfl] at t3
              rw [show (kTy 1 (kNm i)).ins.length = 0 from rfl] at t4
              rw [show (1 + ((1 : Nat) : Int)) = 2 from rfl] at t0 t5
              clear hK
              go_upto_region 17 with fail
              go_quiet ((go_at_call 20; exact Calls.quiet_of (HDG _)))
              go_wp2_with fail
              go_roundg (ks.length - (i + 1))
              case measure => omega
              case rel => exact ⟨i + 1, by go_num, by omega, rfl, below_drewN (HB2.out.alloc HB2.out.size _) _⟩
            | 2, _ =>
              rw [show (kTy 2 (kNm i)).names.length = 0 from rfl] at t2
              rw [show (kTy 2 (kNm i)).flds.length = 1 from rfl] at t3
              rw [show (kTy 2 (kNm i)).ins.length = 0 from rfl] at t4
              rw [show (1 + ((2 : Nat) : Int)) = 3 from rfl] at t0 t5
              obtain ⟨g, o1, c1', g2, o2, c2', e, hc1, hc2, hg, hg2, m1, m3, n4⟩ := hK
              injection e with e1 _ e2
              subst e1 e2
              have hgl := Nat.lt_of_lt_of_le hg.2 hbz
              have hgl2 := Nat.lt_of_lt_of_le hg2.2 hbz
              clear hg hg2
              go_upto_region 17 with fail
              go_quiet ((go_at_call 20; exact Calls.quiet_of (HDG _)))
              go_wp2_with fail
              go_roundg (ks.length - (i + 1))
              case measure => omega
              case rel => exact ⟨i + 1, by go_num, by omega, rfl, below_drewN (HB2.out.alloc HB2.out.size _) _⟩
            | 3, _ =>
              rw [show (kTy 3 (kNm i)).names.length = 3 from rfl] at t2
              rw [show (kTy 3 (kNm i)).flds.length = 0 from rfl] at t3
              rw [show (kTy 3 (kNm i)).ins.length = 0 from rfl] at t4
              rw [show (1 + ((3 : Nat) : Int)) = 4 from rfl] at t0 t5
              clear hK
              go_upto_region 17 with fail
              go_quiet ((go_at_call 20; exact Calls.quiet_of (HDG _)))
              go_wp2_with fail
              go_roundg (ks.length - (i + 1))
              case measure => omega
              case rel => exact ⟨i + 1, by go_num, by omega, rfl, below_drewN (HB2.out.alloc HB2.out.size _) _⟩
            | 4, _ =>
              rw [show (kTy 4 (kNm i)).names.length = 2 from rfl] at t2
              rw [show (kTy 4 (kNm i)).flds.length = 0 from rfl] at t3
              rw [show (kTy 4 (kNm i)).ins.length = 0 from rfl] at t4
              rw [show (1 + ((4 : Nat) : Int)) = 5 from rfl] at t0 t5
              obtain ⟨g, o1, c1', e, hc1, hg, m1⟩ := hK
              injection e with e1 _ e2
              subst e1 e2
              have hgl := Nat.lt_of_lt_of_le hg.2 hbz
              clear hg
              go_upto_region 17 with fail
              go_quiet ((go_at_call 20; exact Calls.quiet_of (HDG _)))
              go_wp2_with fail
              go_roundg (ks.length - (i + 1))
              case measure => omega
              case rel => exact ⟨i + 1, by go_num, by omega, rfl, below_drewN (HB2.out.alloc HB2.out.size _) _⟩
            | 5, _ =>
              rw [show (kTy 5 (kNm i)).names.length = 0 from rfl] at t2
              rw [show (kTy 5 (kNm i)).flds.length = 0 from rfl] at t3
              rw [show (kTy 5 (kNm i)).ins.length = 2 from rfl] at t4
              rw [show (1 + ((5 : Nat) : Int)) = 6 from rfl] at t0 t5
              obtain ⟨g, o1, c1', e, hc1, hg, m4, n3⟩ := hK
              injection e with e1 _ e2
              subst e1 e2
              have hgl := Nat.lt_of_lt_of_le hg.2 hbz
              clear hg
              go_upto_region 17 with fail
              go_quiet ((go_at_call 20; exact Calls.quiet_of (HDG _)))
              go_wp2_with fail
              go_roundg (ks.length - (i + 1))
              case measure => omega
              case rel => exact ⟨i + 1, by go_num, by omega, rfl, below_drewN (HB2.out.alloc HB2.out.size _) _⟩
          · have hdi : decide ((i : Int) < (ks.length : Int)) = false := decide_eq_false (by omega)
            have hdi2 : decide (i < ks.length) = false := decide_eq_false hlt2
            have HF := Lib.hid (HB1.out.trans ((HA1.out.trans (hb2.mono (by rw [HAZ.out]; omega))).mono HB1.out.size))
            go_wp2_with fail
            refine (sdlAwake _ (EvOk.below HF.out HEV.out)).mono ?_
            rintro e w4 ⟨rfl, b4⟩
            go_wp2_with fail
            go_ret
            exact ⟨rfl, HF.out.trans (b4.mono HF.out.size)⟩

end Go.Proofs.YtkahnlgedacppaaGreatDoor
