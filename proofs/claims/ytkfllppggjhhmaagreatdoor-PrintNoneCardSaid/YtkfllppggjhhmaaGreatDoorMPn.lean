/-
  PrintNone: documents that no text says: nothing is printed.
-/
import Derived.Test.YtkfllppggjhhmaaGreatDoorMLaid
namespace Go.Proofs.YtkfllppggjhhmaaGreatDoor
open Go.RowKit
set_option linter.unusedVariables false

theorem and_7 (n : Int) : bits .and .i64 n 7 = n % 8 := by
  have h : (BitVec.ofInt 64 7).toNat = 2 ^ 3 - 1 := by decide
  have key : (BitVec.ofInt 64 n &&& BitVec.ofInt 64 7).toNat = (n % ((2 ^ 64 : Nat) : Int)).toNat % 2 ^ 3 := by
    rw [BitVec.toNat_and, BitVec.toNat_ofInt, h, Nat.and_two_pow_sub_one_eq_mod]
  show IntKind.i64.wrap ((BitVec.ofInt 64 n &&& BitVec.ofInt 64 7).toNat : Nat) = n % 8
  rw [key, IntKind.wrap_i64]
  omega

def selA : SelT := .mk 1 [] [97] [] [] [] []
def docOf (s : List SelT) : DocT := ⟨[⟨false, [], [], [], s⟩], []⟩
/-- The eight documents. -/
def noneD : Nat → DocT
  | 0 => ⟨[], []⟩
  | 1 => docOf []
  | 2 => docOf [.mk 1 [] [49, 97] [] [] [] []]
  | 3 => docOf [.mk 9 [] [97] [] [] [] []]
  | 4 => docOf [.mk 2 [] [111, 110] [] [] [] []]
  | 5 => docOf [.mk 1 [] [97] [] [([120], vz)] [] []]
  | 6 => ⟨[⟨false, [], [⟨[118], ([84], []), .mk 9 ⟨#[119]⟩ [] []⟩], [], [selA]⟩], []⟩
  | _ => ⟨[⟨false, [], [], [], [selA]⟩], [⟨[70], [84], [], []⟩]⟩
theorem none_s0 : tokSmall (lexP (docT (noneD 0))).1 = true := by kernel_rfl
theorem none_d0 : dpD 2 (noneD 0) = true := by kernel_rfl
theorem none_e0 : ((parseM (docT (noneD 0))).2.2 == 0) = false := by kernel_rfl
theorem none_s1 : tokSmall (lexP (docT (noneD 1))).1 = true := by kernel_rfl
theorem none_d1 : dpD 2 (noneD 1) = true := by kernel_rfl
theorem none_e1 : ((parseM (docT (noneD 1))).2.2 == 0) = false := by kernel_rfl
theorem none_s2 : tokSmall (lexP (docT (noneD 2))).1 = true := by kernel_rfl
theorem none_d2 : dpD 2 (noneD 2) = true := by kernel_rfl
theorem none_e2 : ((parseM (docT (noneD 2))).2.2 == 0) = false := by kernel_rfl
theorem none_s3 : tokSmall (lexP (docT (noneD 3))).1 = true := by kernel_rfl
theorem none_d3 : dpD 2 (noneD 3) = true := by kernel_rfl
theorem none_e3 : ((parseM (docT (noneD 3))).2.2 == 0) = false := by kernel_rfl
theorem none_s4 : tokSmall (lexP (docT (noneD 4))).1 = true := by kernel_rfl
theorem none_d4 : dpD 2 (noneD 4) = true := by kernel_rfl
theorem none_e4 : ((parseM (docT (noneD 4))).2.2 == 0) = false := by kernel_rfl
theorem none_s5 : tokSmall (lexP (docT (noneD 5))).1 = true := by kernel_rfl
theorem none_d5 : dpD 2 (noneD 5) = true := by kernel_rfl
theorem none_e5 : ((parseM (docT (noneD 5))).2.2 == 0) = false := by kernel_rfl
theorem none_s6 : tokSmall (lexP (docT (noneD 6))).1 = true := by kernel_rfl
theorem none_d6 : dpD 2 (noneD 6) = true := by kernel_rfl
theorem none_e6 : ((parseM (docT (noneD 6))).2.2 == 0) = false := by kernel_rfl
theorem none_s7 : tokSmall (lexP (docT (noneD 7))).1 = true := by kernel_rfl
theorem none_d7 : dpD 2 (noneD 7) = true := by kernel_rfl
theorem none_e7 : ((parseM (docT (noneD 7))).2.2 == 0) = false := by kernel_rfl
theorem none_no {d : DocT} {s : List UInt8} (h : PrintIs d s) (he : ((parseM (docT d)).2.2 == 0) = false) : s = [] := h.2 fun e => by rw [e] at he; cases he
theorem vs_leafN (k : Int) (s : ByteArray) (hs : s.size ≤ 1000) : VS (.mk k s [] []) := fun m => by
  cases m with
  | zero =>
    unfold vtxt
    split
    · exact Nat.zero_le _
    · exact Nat.le_trans (leafT_len _) (by show 6 * s.size + 4 ≤ _; omega)
  | succ m =>
    unfold vtxt
    split
    · exact (show 2 ≤ 100000000000 by decide)
    · split
      · exact (show 2 ≤ 100000000000 by decide)
      · exact Nat.le_trans (leafT_len _) (by show 6 * s.size + 4 ≤ _; omega)

theorem new4 (w : World) (a b c d : Obj) : ((((w.alloc a).alloc b).alloc c).alloc d).heap.size = w.heap.size + 4 ∧ ((((w.alloc a).alloc b).alloc c).alloc d).heap[w.heap.size + 1]? = some b ∧ ((((w.alloc a).alloc b).alloc c).alloc d).heap[w.heap.size + 2]? = some c ∧ ((((w.alloc a).alloc b).alloc c).alloc d).heap[w.heap.size + 3]? = some d := by
  have s1 : (w.alloc a).heap.size = w.heap.size + 1 := by simp
  have s2 : ((w.alloc a).alloc b).heap.size = w.heap.size + 2 := by simp
  have s3 : (((w.alloc a).alloc b).alloc c).heap.size = w.heap.size + 3 := by simp
  refine ⟨by simp, ?_, ?_, ?_⟩
  · exact (Below.heap_alloc _ _ _ (by rw [s3]; omega)).trans ((Below.heap_alloc _ _ _ (by rw [s2]; omega)).trans (by have := heap_alloc_new (w.alloc a) b; rwa [s1] at this))
  · exact (Below.heap_alloc _ _ _ (by rw [s3]; omega)).trans (by have := heap_alloc_new ((w.alloc a).alloc b) c; rwa [s2] at this)
  · have := heap_alloc_new (((w.alloc a).alloc b).alloc c) d
    rwa [s3] at this

set_option maxHeartbeats 8000000 in
set_option maxRecDepth 100000 in
theorem printNone_walk (n : Int) (w : World) (hm : ∃ m, w.cell? ⟨0, 0, none⟩ = some (.int .i64 m)) : Calls Tryz.prog 7 #[.int .i64 n] w (TrueBelow w) := by
  obtain ⟨u, eu, lu⟩ : ∃ u : Nat, bits .and .i64 n 7 = (u : Int) ∧ u < 8 := ⟨(n % 8).toNat, by rw [and_7]; omega, by omega⟩
  have HB0 := Lib.hid (((((Below.refl w.heap.size w).alloc (Nat.le_refl _) (.cells #[.int .i64 1, .string ⟨#[]⟩, .string ⟨#[97]⟩, .string ⟨#[]⟩, .slice none 0 0, .slice none 0 0, .slice none 0 0] 49)).alloc (by simp) (.cells #[.int .i64 1, .string ⟨#[]⟩, .string ⟨#[97]⟩, .string ⟨#[]⟩, .slice none 0 0, .slice none 0 0, .slice none 0 0] 49)).alloc (by simp; omega) (.cells #[.bool false, .string ⟨#[]⟩, .slice none 0 0, .slice none 0 0, .slice (some ⟨w.heap.size + 1, 0, none⟩) 1 1] 45)).alloc (by simp; omega) (.cells #[.slice (some ⟨w.heap.size + 2, 0, none⟩) 1 1, .slice none 0 0] 25))
  have HSZ := Lib.hid (show ((((w.alloc (.cells #[.int .i64 1, .string ⟨#[]⟩, .string ⟨#[97]⟩, .string ⟨#[]⟩, .slice none 0 0, .slice none 0 0, .slice none 0 0] 49)).alloc (.cells #[.int .i64 1, .string ⟨#[]⟩, .string ⟨#[97]⟩, .string ⟨#[]⟩, .slice none 0 0, .slice none 0 0, .slice none 0 0] 49)).alloc (.cells #[.bool false, .string ⟨#[]⟩, .slice none 0 0, .slice none 0 0, .slice (some ⟨w.heap.size + 1, 0, none⟩) 1 1] 45)).alloc (.cells #[.slice (some ⟨w.heap.size + 2, 0, none⟩) 1 1, .slice none 0 0] 25)).heap.size = w.heap.size + 4 by simp)
  have HL := Lib.hid (show ((((w.alloc (.cells #[.int .i64 1, .string ⟨#[]⟩, .string ⟨#[97]⟩, .string ⟨#[]⟩, .slice none 0 0, .slice none 0 0, .slice none 0 0] 49)).alloc (.cells #[.int .i64 1, .string ⟨#[]⟩, .string ⟨#[97]⟩, .string ⟨#[]⟩, .slice none 0 0, .slice none 0 0, .slice none 0 0] 49)).alloc (.cells #[.bool false, .string ⟨#[]⟩, .slice none 0 0, .slice none 0 0, .slice (some ⟨w.heap.size + 1, 0, none⟩) 1 1] 45)).alloc (.cells #[.slice (some ⟨w.heap.size + 2, 0, none⟩) 1 1, .slice none 0 0] 25)).heap[w.heap.size + 1]? = some (.cells #[.int .i64 1, .string ⟨#[]⟩, .string ⟨#[97]⟩, .string ⟨#[]⟩, .slice none 0 0, .slice none 0 0, .slice none 0 0] 49 (0, 0)) ∧ ((((w.alloc (.cells #[.int .i64 1, .string ⟨#[]⟩, .string ⟨#[97]⟩, .string ⟨#[]⟩, .slice none 0 0, .slice none 0 0, .slice none 0 0] 49)).alloc (.cells #[.int .i64 1, .string ⟨#[]⟩, .string ⟨#[97]⟩, .string ⟨#[]⟩, .slice none 0 0, .slice none 0 0, .slice none 0 0] 49)).alloc (.cells #[.bool false, .string ⟨#[]⟩, .slice none 0 0, .slice none 0 0, .slice (some ⟨w.heap.size + 1, 0, none⟩) 1 1] 45)).alloc (.cells #[.slice (some ⟨w.heap.size + 2, 0, none⟩) 1 1, .slice none 0 0] 25)).heap[w.heap.size + 2]? = some (.cells #[.bool false, .string ⟨#[]⟩, .slice none 0 0, .slice none 0 0, .slice (some ⟨w.heap.size + 1, 0, none⟩) 1 1] 45 (0, 0)) ∧ ((((w.alloc (.cells #[.int .i64 1, .string ⟨#[]⟩, .string ⟨#[97]⟩, .string ⟨#[]⟩, .slice none 0 0, .slice none 0 0, .slice none 0 0] 49)).alloc (.cells #[.int .i64 1, .string ⟨#[]⟩, .string ⟨#[97]⟩, .string ⟨#[]⟩, .slice none 0 0, .slice none 0 0, .slice none 0 0] 49)).alloc (.cells #[.bool false, .string ⟨#[]⟩, .slice none 0 0, .slice none 0 0, .slice (some ⟨w.heap.size + 1, 0, none⟩) 1 1] 45)).alloc (.cells #[.slice (some ⟨w.heap.size + 2, 0, none⟩) 1 1, .slice none 0 0] 25)).heap[w.heap.size + 3]? = some (.cells #[.slice (some ⟨w.heap.size + 2, 0, none⟩) 1 1, .slice none 0 0] 25 (0, 0)) by
    exact (new4 w _ _ _ _).2)
  have HD1 := Lib.hid (show ∀ b, (w.heap.size ≤ b ∧ b < w.heap.size + 4) → b < ((((w.alloc (.cells #[.int .i64 1, .string ⟨#[]⟩, .string ⟨#[97]⟩, .string ⟨#[]⟩, .slice none 0 0, .slice none 0 0, .slice none 0 0] 49)).alloc (.cells #[.int .i64 1, .string ⟨#[]⟩, .string ⟨#[97]⟩, .string ⟨#[]⟩, .slice none 0 0, .slice none 0 0, .slice none 0 0] 49)).alloc (.cells #[.bool false, .string ⟨#[]⟩, .slice none 0 0, .slice none 0 0, .slice (some ⟨w.heap.size + 1, 0, none⟩) 1 1] 45)).alloc (.cells #[.slice (some ⟨w.heap.size + 2, 0, none⟩) 1 1, .slice none 0 0] 25)).heap.size from fun b hb => by rw [HSZ.out]; exact hb.2)
  have hS : ∀ W, W.heap[w.heap.size + 1]? = some (.cells #[.int .i64 1, .string ⟨#[]⟩, .string ⟨#[97]⟩, .string ⟨#[]⟩, .slice none 0 0, .slice none 0 0, .slice none 0 0] 49 (0, 0)) → ∀ D : Nat → Prop, D (w.heap.size + 1) → RowD (SelE 1) 7 W D [selA] (.slice (some ⟨w.heap.size + 1, 0, none⟩) 1 1) := fun W hb D hd => row_one1 (cs := [.int .i64 1, .string ⟨#[]⟩, .string ⟨#[97]⟩, .string ⟨#[]⟩, .slice none 0 0, .slice none 0 0, .slice none 0 0]) hb rfl hd ⟨⟨by decide, by decide, by decide⟩, _, _, _, rfl, .nil, .nil, .nil⟩
  have HS := Lib.hid hS
  have hE : DocE ((((w.alloc (.cells #[.int .i64 1, .string ⟨#[]⟩, .string ⟨#[97]⟩, .string ⟨#[]⟩, .slice none 0 0, .slice none 0 0, .slice none 0 0] 49)).alloc (.cells #[.int .i64 1, .string ⟨#[]⟩, .string ⟨#[97]⟩, .string ⟨#[]⟩, .slice none 0 0, .slice none 0 0, .slice none 0 0] 49)).alloc (.cells #[.bool false, .string ⟨#[]⟩, .slice none 0 0, .slice none 0 0, .slice (some ⟨w.heap.size + 1, 0, none⟩) 1 1] 45)).alloc (.cells #[.slice (some ⟨w.heap.size + 2, 0, none⟩) 1 1, .slice none 0 0] 25)) (fun b => w.heap.size ≤ b ∧ b < w.heap.size + 4) docOne (.agg #[.slice (some ⟨w.heap.size + 2, 0, none⟩) 1 1, .slice none 0 0]) := ⟨_, _, rfl, row_one1 (cs := [.bool false, .string ⟨#[]⟩, .slice none 0 0, .slice none 0 0, .slice (some ⟨w.heap.size + 1, 0, none⟩) 1 1]) HL.out.2.1 rfl (by omega) ⟨by decide, _, _, _, rfl, .nil, .nil, 1, hS _ HL.out.1 _ (by omega)⟩, .nil⟩
  have HC := printDoc_any (n := 2) ((((w.alloc (.cells #[.int .i64 1, .string ⟨#[]⟩, .string ⟨#[97]⟩, .string ⟨#[]⟩, .slice none 0 0, .slice none 0 0, .slice none 0 0] 49)).alloc (.cells #[.int .i64 1, .string ⟨#[]⟩, .string ⟨#[97]⟩, .string ⟨#[]⟩, .slice none 0 0, .slice none 0 0, .slice none 0 0] 49)).alloc (.cells #[.bool false, .string ⟨#[]⟩, .slice none 0 0, .slice none 0 0, .slice (some ⟨w.heap.size + 1, 0, none⟩) 1 1] 45)).alloc (.cells #[.slice (some ⟨w.heap.size + 2, 0, none⟩) 1 1, .slice none 0 0] 25)) (by decide) hE docOne_deep HD1.out (at_maxlen hm HB0.out) docOne_small
  have HMX := Lib.hid hm
  clear hE hm hS
  go_enter Tryz.func7, Tryz.ntmps7
  go_wp2_with fail
  refine HC.mono ?_
  rintro e w1 ⟨s, rfl, hs, hb1⟩
  obtain rfl : s = [113, 117, 101, 114, 121, 123, 97, 125] := (hs.1 pm_back).trans pm_one
  have HB1 := Lib.hid (HB0.out.trans (hb1.mono (by rw [HSZ.out]; omega)))
  have g1 := (hb1.block (w.heap.size + 1) (by rw [HSZ.out]; omega)).trans HL.out.1
  have g2 := (hb1.block (w.heap.size + 2) (by rw [HSZ.out]; omega)).trans HL.out.2.1
  have g3 := (hb1.block (w.heap.size + 3) (by rw [HSZ.out]; omega)).trans HL.out.2.2
  have hz1 : w.heap.size + 4 ≤ w1.heap.size := by have := hb1.size; rw [HSZ.out] at this; exact this
  have HG := Lib.hid (And.intro g1 (And.intro g2 g3))
  obtain ⟨p0, p1, p2, p3, p4, p5, p6, pf, pl⟩ := bk7 g1
  obtain ⟨q0, q1, q2, q3, q4, qf, ql⟩ := bk5 g2
  obtain ⟨r0, r1, rf, rl⟩ := bk2 g3
  clear hb1 hs HC g1 g2 g3 HL HD1 HB0 HSZ
  obtain rfl | rfl | rfl | rfl | rfl | rfl | rfl | rfl : u = 0 ∨ u = 1 ∨ u = 2 ∨ u = 3 ∨ u = 4 ∨ u = 5 ∨ u = 6 ∨ u = 7 := by omega
  · have HU := Lib.hid eu
    have hu : bits .and .i64 n 7 = 0 := eu
    have k01 : (w1.setCell ⟨w.heap.size + 3, 0, none⟩ (.slice none 0 0)).heap[w.heap.size + 1]? = some (.cells #[.int .i64 1, .string ⟨#[]⟩, .string ⟨#[97]⟩, .string ⟨#[]⟩, .slice none 0 0, .slice none 0 0, .slice none 0 0] 49 (0, 0)) := (Below.heap_setCell _ _ _ _ (show (w.heap.size + 1 : Nat) ≠ w.heap.size + 3 by omega)).trans (HG.out.1)
    have k02 : (w1.setCell ⟨w.heap.size + 3, 0, none⟩ (.slice none 0 0)).heap[w.heap.size + 2]? = some (.cells #[.bool false, .string ⟨#[]⟩, .slice none 0 0, .slice none 0 0, .slice (some ⟨w.heap.size + 1, 0, none⟩) 1 1] 45 (0, 0)) := (Below.heap_setCell _ _ _ _ (show (w.heap.size + 2 : Nat) ≠ w.heap.size + 3 by omega)).trans (HG.out.2.1)
    have k03 : (w1.setCell ⟨w.heap.size + 3, 0, none⟩ (.slice none 0 0)).heap[w.heap.size + 3]? = some (.cells #[.slice none 0 0, .slice none 0 0] 25 (0, 0)) := by rw [Lib.heap_setCell_same (HG.out.2.2)]; rfl
    have k11 : ((w1.setCell ⟨w.heap.size + 3, 0, none⟩ (.slice none 0 0)).setCell ⟨w.heap.size + 3, 1, none⟩ (.slice none 0 0)).heap[w.heap.size + 1]? = some (.cells #[.int .i64 1, .string ⟨#[]⟩, .string ⟨#[97]⟩, .string ⟨#[]⟩, .slice none 0 0, .slice none 0 0, .slice none 0 0] 49 (0, 0)) := (Below.heap_setCell _ _ _ _ (show (w.heap.size + 1 : Nat) ≠ w.heap.size + 3 by omega)).trans (k01)
    have k12 : ((w1.setCell ⟨w.heap.size + 3, 0, none⟩ (.slice none 0 0)).setCell ⟨w.heap.size + 3, 1, none⟩ (.slice none 0 0)).heap[w.heap.size + 2]? = some (.cells #[.bool false, .string ⟨#[]⟩, .slice none 0 0, .slice none 0 0, .slice (some ⟨w.heap.size + 1, 0, none⟩) 1 1] 45 (0, 0)) := (Below.heap_setCell _ _ _ _ (show (w.heap.size + 2 : Nat) ≠ w.heap.size + 3 by omega)).trans (k02)
    have k13 : ((w1.setCell ⟨w.heap.size + 3, 0, none⟩ (.slice none 0 0)).setCell ⟨w.heap.size + 3, 1, none⟩ (.slice none 0 0)).heap[w.heap.size + 3]? = some (.cells #[.slice none 0 0, .slice none 0 0] 25 (0, 0)) := by rw [Lib.heap_setCell_same (k03)]; rfl
    have hzs : ((w1.setCell ⟨w.heap.size + 3, 0, none⟩ (.slice none 0 0)).setCell ⟨w.heap.size + 3, 1, none⟩ (.slice none 0 0)).heap.size = w1.heap.size := by simp [World.setCell]
    have hzn : ((w1.setCell ⟨w.heap.size + 3, 0, none⟩ (.slice none 0 0)).setCell ⟨w.heap.size + 3, 1, none⟩ (.slice none 0 0)).heap.size = w1.heap.size := hzs
    have hb2 : Below w.heap.size w ((w1.setCell ⟨w.heap.size + 3, 0, none⟩ (.slice none 0 0)).setCell ⟨w.heap.size + 3, 1, none⟩ (.slice none 0 0)) := ((HB1.out.setCell (p := ⟨w.heap.size + 3, 0, none⟩) (by show w.heap.size ≤ w.heap.size + 3; omega) (.slice none 0 0)).setCell (p := ⟨w.heap.size + 3, 1, none⟩) (by show w.heap.size ≤ w.heap.size + 3; omega) (.slice none 0 0))
    obtain ⟨d0, d1, df, dl⟩ := bk2 k13
    have HB2 := Lib.hid hb2
    have hE : DocE ((w1.setCell ⟨w.heap.size + 3, 0, none⟩ (.slice none 0 0)).setCell ⟨w.heap.size + 3, 1, none⟩ (.slice none 0 0)) (fun b => w.heap.size ≤ b ∧ b < w1.heap.size + 1 ∧ b < ((w1.setCell ⟨w.heap.size + 3, 0, none⟩ (.slice none 0 0)).setCell ⟨w.heap.size + 3, 1, none⟩ (.slice none 0 0)).heap.size) (noneD 0) (.agg #[.slice none 0 0, .slice none 0 0]) := ⟨_, _, rfl, .nil, .nil⟩
    have HC := printDoc_any (n := 2) (D := fun b => w.heap.size ≤ b ∧ b < w1.heap.size + 1 ∧ b < ((w1.setCell ⟨w.heap.size + 3, 0, none⟩ (.slice none 0 0)).setCell ⟨w.heap.size + 3, 1, none⟩ (.slice none 0 0)).heap.size) ((w1.setCell ⟨w.heap.size + 3, 0, none⟩ (.slice none 0 0)).setCell ⟨w.heap.size + 3, 1, none⟩ (.slice none 0 0)) (by decide) hE none_d0 (fun b hb => hb.2.2) (at_maxlen HMX.out hb2) none_s0
    clear hE hb2 k01 k02 k03 k11 k12 k13
    go_wp2_with fail
    refine HC.mono ?_
    rintro e w2 ⟨s, rfl, hs, hb3⟩
    obtain rfl : s = [] := none_no hs none_e0
    have HB3 := Lib.hid (HB2.out.trans (hb3.mono (by rw [hzn]; omega)))
    have HA := printAwake w2 (at_maxlen HMX.out HB3.out)
    clear hs hb3 HC
    go_wp2_with fail
    refine HA.mono ?_
    rintro e w3 ⟨rfl, hb4⟩
    have HB4 := Lib.hid (HB3.out.trans (hb4.mono HB3.out.size))
    clear hb4 HA
    go_wp2_with fail
    go_ret
    exact ⟨rfl, HB4.out⟩
  · have HU := Lib.hid eu
    have hu : bits .and .i64 n 7 = 1 := eu
    have k01 : (w1.setCell ⟨w.heap.size + 2, 4, none⟩ (.slice none 0 0)).heap[w.heap.size + 1]? = some (.cells #[.int .i64 1, .string ⟨#[]⟩, .string ⟨#[97]⟩, .string ⟨#[]⟩, .slice none 0 0, .slice none 0 0, .slice none 0 0] 49 (0, 0)) := (Below.heap_setCell _ _ _ _ (show (w.heap.size + 1 : Nat) ≠ w.heap.size + 2 by omega)).trans (HG.out.1)
    have k02 : (w1.setCell ⟨w.heap.size + 2, 4, none⟩ (.slice none 0 0)).heap[w.heap.size + 2]? = some (.cells #[.bool false, .string ⟨#[]⟩, .slice none 0 0, .slice none 0 0, .slice none 0 0] 45 (0, 0)) := by rw [Lib.heap_setCell_same (HG.out.2.1)]; rfl
    have k03 : (w1.setCell ⟨w.heap.size + 2, 4, none⟩ (.slice none 0 0)).heap[w.heap.size + 3]? = some (.cells #[.slice (some ⟨w.heap.size + 2, 0, none⟩) 1 1, .slice none 0 0] 25 (0, 0)) := (Below.heap_setCell _ _ _ _ (show (w.heap.size + 3 : Nat) ≠ w.heap.size + 2 by omega)).trans (HG.out.2.2)
    have hzs : (w1.setCell ⟨w.heap.size + 2, 4, none⟩ (.slice none 0 0)).heap.size = w1.heap.size := by simp [World.setCell]
    have hzn : (w1.setCell ⟨w.heap.size + 2, 4, none⟩ (.slice none 0 0)).heap.size = w1.heap.size := hzs
    have hb2 : Below w.heap.size w (w1.setCell ⟨w.heap.size + 2, 4, none⟩ (.slice none 0 0)) := (HB1.out.setCell (p := ⟨w.heap.size + 2, 4, none⟩) (by show w.heap.size ≤ w.heap.size + 2; omega) (.slice none 0 0))
    obtain ⟨d0, d1, df, dl⟩ := bk2 k03
    have HB2 := Lib.hid hb2
    have hE : DocE (w1.setCell ⟨w.heap.size + 2, 4, none⟩ (.slice none 0 0)) (fun b => w.heap.size ≤ b ∧ b < w1.heap.size + 1 ∧ b < (w1.setCell ⟨w.heap.size + 2, 4, none⟩ (.slice none 0 0)).heap.size) (noneD 1) (.agg #[.slice (some ⟨w.heap.size + 2, 0, none⟩) 1 1, .slice none 0 0]) := ⟨_, _, rfl, row_one1 (E := OpE) (cs := [.bool false, .string ⟨#[]⟩, .slice none 0 0, .slice none 0 0, .slice none 0 0]) k02 rfl (by refine ⟨?_, ?_, ?_⟩ <;> (try rw [hzn]) <;> omega) ⟨by decide, _, _, _, rfl, .nil, .nil, 0, .nil⟩, .nil⟩
    have HC := printDoc_any (n := 2) (D := fun b => w.heap.size ≤ b ∧ b < w1.heap.size + 1 ∧ b < (w1.setCell ⟨w.heap.size + 2, 4, none⟩ (.slice none 0 0)).heap.size) (w1.setCell ⟨w.heap.size + 2, 4, none⟩ (.slice none 0 0)) (by decide) hE none_d1 (fun b hb => hb.2.2) (at_maxlen HMX.out hb2) none_s1
    clear hE hb2 k01 k02 k03
    go_wp2_with fail
    refine HC.mono ?_
    rintro e w2 ⟨s, rfl, hs, hb3⟩
    obtain rfl : s = [] := none_no hs none_e1
    have HB3 := Lib.hid (HB2.out.trans (hb3.mono (by rw [hzn]; omega)))
    have HA := printAwake w2 (at_maxlen HMX.out HB3.out)
    clear hs hb3 HC
    go_wp2_with fail
    refine HA.mono ?_
    rintro e w3 ⟨rfl, hb4⟩
    have HB4 := Lib.hid (HB3.out.trans (hb4.mono HB3.out.size))
    clear hb4 HA
    go_wp2_with fail
    go_ret
    exact ⟨rfl, HB4.out⟩
  · have HU := Lib.hid eu
    have hu : bits .and .i64 n 7 = 2 := eu
    have k01 : (w1.setCell ⟨w.heap.size + 1, 2, none⟩ (.string ⟨#[49, 97]⟩)).heap[w.heap.size + 1]? = some (.cells #[.int .i64 1, .string ⟨#[]⟩, .string ⟨#[49, 97]⟩, .string ⟨#[]⟩, .slice none 0 0, .slice none 0 0, .slice none 0 0] 49 (0, 0)) := by rw [Lib.heap_setCell_same (HG.out.1)]; rfl
    have k02 : (w1.setCell ⟨w.heap.size + 1, 2, none⟩ (.string ⟨#[49, 97]⟩)).heap[w.heap.size + 2]? = some (.cells #[.bool false, .string ⟨#[]⟩, .slice none 0 0, .slice none 0 0, .slice (some ⟨w.heap.size + 1, 0, none⟩) 1 1] 45 (0, 0)) := (Below.heap_setCell _ _ _ _ (show (w.heap.size + 2 : Nat) ≠ w.heap.size + 1 by omega)).trans (HG.out.2.1)
    have k03 : (w1.setCell ⟨w.heap.size + 1, 2, none⟩ (.string ⟨#[49, 97]⟩)).heap[w.heap.size + 3]? = some (.cells #[.slice (some ⟨w.heap.size + 2, 0, none⟩) 1 1, .slice none 0 0] 25 (0, 0)) := (Below.heap_setCell _ _ _ _ (show (w.heap.size + 3 : Nat) ≠ w.heap.size + 1 by omega)).trans (HG.out.2.2)
    have hzs : (w1.setCell ⟨w.heap.size + 1, 2, none⟩ (.string ⟨#[49, 97]⟩)).heap.size = w1.heap.size := by simp [World.setCell]
    have hzn : (w1.setCell ⟨w.heap.size + 1, 2, none⟩ (.string ⟨#[49, 97]⟩)).heap.size = w1.heap.size := hzs
    have hb2 : Below w.heap.size w (w1.setCell ⟨w.heap.size + 1, 2, none⟩ (.string ⟨#[49, 97]⟩)) := (HB1.out.setCell (p := ⟨w.heap.size + 1, 2, none⟩) (by show w.heap.size ≤ w.heap.size + 1; omega) (.string ⟨#[49, 97]⟩))
    obtain ⟨d0, d1, df, dl⟩ := bk2 k03
    have HB2 := Lib.hid hb2
    have hS := row_one1 (E := SelE 1) (x := .mk 1 [] [49, 97] [] [] [] []) (W := (w1.setCell ⟨w.heap.size + 1, 2, none⟩ (.string ⟨#[49, 97]⟩))) (D := fun b => w.heap.size ≤ b ∧ b < w1.heap.size + 1 ∧ b < (w1.setCell ⟨w.heap.size + 1, 2, none⟩ (.string ⟨#[49, 97]⟩)).heap.size) (cs := [.int .i64 1, .string ⟨#[]⟩, .string ⟨#[49, 97]⟩, .string ⟨#[]⟩, .slice none 0 0, .slice none 0 0, .slice none 0 0]) k01 rfl (by refine ⟨?_, ?_, ?_⟩ <;> (try rw [hzn]) <;> omega) ⟨⟨by decide, by decide, by decide⟩, _, _, _, rfl, .nil, .nil, .nil⟩
    have hE : DocE (w1.setCell ⟨w.heap.size + 1, 2, none⟩ (.string ⟨#[49, 97]⟩)) (fun b => w.heap.size ≤ b ∧ b < w1.heap.size + 1 ∧ b < (w1.setCell ⟨w.heap.size + 1, 2, none⟩ (.string ⟨#[49, 97]⟩)).heap.size) (noneD 2) (.agg #[.slice (some ⟨w.heap.size + 2, 0, none⟩) 1 1, .slice none 0 0]) := ⟨_, _, rfl, row_one1 (E := OpE) (cs := [.bool false, .string ⟨#[]⟩, .slice none 0 0, .slice none 0 0, .slice (some ⟨w.heap.size + 1, 0, none⟩) 1 1]) k02 rfl (by refine ⟨?_, ?_, ?_⟩ <;> (try rw [hzn]) <;> omega) ⟨by decide, _, _, _, rfl, .nil, .nil, 1, hS⟩, .nil⟩
    have HC := printDoc_any (n := 2) (D := fun b => w.heap.size ≤ b ∧ b < w1.heap.size + 1 ∧ b < (w1.setCell ⟨w.heap.size + 1, 2, none⟩ (.string ⟨#[49, 97]⟩)).heap.size) (w1.setCell ⟨w.heap.size + 1, 2, none⟩ (.string ⟨#[49, 97]⟩)) (by decide) hE none_d2 (fun b hb => hb.2.2) (at_maxlen HMX.out hb2) none_s2
    clear hE hb2 k01 k02 k03
    go_wp2_with fail
    refine HC.mono ?_
    rintro e w2 ⟨s, rfl, hs, hb3⟩
    obtain rfl : s = [] := none_no hs none_e2
    have HB3 := Lib.hid (HB2.out.trans (hb3.mono (by rw [hzn]; omega)))
    have HA := printAwake w2 (at_maxlen HMX.out HB3.out)
    clear hs hb3 HC
    go_wp2_with fail
    refine HA.mono ?_
    rintro e w3 ⟨rfl, hb4⟩
    have HB4 := Lib.hid (HB3.out.trans (hb4.mono HB3.out.size))
    clear hb4 HA
    go_wp2_with fail
    go_ret
    exact ⟨rfl, HB4.out⟩
  · have HU := Lib.hid eu
    have hu : bits .and .i64 n 7 = 3 := eu
    have k01 : (w1.setCell ⟨w.heap.size + 1, 0, none⟩ (.int .i64 9)).heap[w.heap.size + 1]? = some (.cells #[.int .i64 9, .string ⟨#[]⟩, .string ⟨#[97]⟩, .string ⟨#[]⟩, .slice none 0 0, .slice none 0 0, .slice none 0 0] 49 (0, 0)) := by rw [Lib.heap_setCell_same (HG.out.1)]; rfl
    have k02 : (w1.setCell ⟨w.heap.size + 1, 0, none⟩ (.int .i64 9)).heap[w.heap.size + 2]? = some (.cells #[.bool false, .string ⟨#[]⟩, .slice none 0 0, .slice none 0 0, .slice (some ⟨w.heap.size + 1, 0, none⟩) 1 1] 45 (0, 0)) := (Below.heap_setCell _ _ _ _ (show (w.heap.size + 2 : Nat) ≠ w.heap.size + 1 by omega)).trans (HG.out.2.1)
    have k03 : (w1.setCell ⟨w.heap.size + 1, 0, none⟩ (.int .i64 9)).heap[w.heap.size + 3]? = some (.cells #[.slice (some ⟨w.heap.size + 2, 0, none⟩) 1 1, .slice none 0 0] 25 (0, 0)) := (Below.heap_setCell _ _ _ _ (show (w.heap.size + 3 : Nat) ≠ w.heap.size + 1 by omega)).trans (HG.out.2.2)
    have hzs : (w1.setCell ⟨w.heap.size + 1, 0, none⟩ (.int .i64 9)).heap.size = w1.heap.size := by simp [World.setCell]
    have hzn : (w1.setCell ⟨w.heap.size + 1, 0, none⟩ (.int .i64 9)).heap.size = w1.heap.size := hzs
    have hb2 : Below w.heap.size w (w1.setCell ⟨w.heap.size + 1, 0, none⟩ (.int .i64 9)) := (HB1.out.setCell (p := ⟨w.heap.size + 1, 0, none⟩) (by show w.heap.size ≤ w.heap.size + 1; omega) (.int .i64 9))
    obtain ⟨d0, d1, df, dl⟩ := bk2 k03
    have HB2 := Lib.hid hb2
    have hS := row_one1 (E := SelE 1) (x := .mk 9 [] [97] [] [] [] []) (W := (w1.setCell ⟨w.heap.size + 1, 0, none⟩ (.int .i64 9))) (D := fun b => w.heap.size ≤ b ∧ b < w1.heap.size + 1 ∧ b < (w1.setCell ⟨w.heap.size + 1, 0, none⟩ (.int .i64 9)).heap.size) (cs := [.int .i64 9, .string ⟨#[]⟩, .string ⟨#[97]⟩, .string ⟨#[]⟩, .slice none 0 0, .slice none 0 0, .slice none 0 0]) k01 rfl (by refine ⟨?_, ?_, ?_⟩ <;> (try rw [hzn]) <;> omega) ⟨⟨by decide, by decide, by decide⟩, _, _, _, rfl, .nil, .nil, .nil⟩
    have hE : DocE (w1.setCell ⟨w.heap.size + 1, 0, none⟩ (.int .i64 9)) (fun b => w.heap.size ≤ b ∧ b < w1.heap.size + 1 ∧ b < (w1.setCell ⟨w.heap.size + 1, 0, none⟩ (.int .i64 9)).heap.size) (noneD 3) (.agg #[.slice (some ⟨w.heap.size + 2, 0, none⟩) 1 1, .slice none 0 0]) := ⟨_, _, rfl, row_one1 (E := OpE) (cs := [.bool false, .string ⟨#[]⟩, .slice none 0 0, .slice none 0 0, .slice (some ⟨w.heap.size + 1, 0, none⟩) 1 1]) k02 rfl (by refine ⟨?_, ?_, ?_⟩ <;> (try rw [hzn]) <;> omega) ⟨by decide, _, _, _, rfl, .nil, .nil, 1, hS⟩, .nil⟩
    have HC := printDoc_any (n := 2) (D := fun b => w.heap.size ≤ b ∧ b < w1.heap.size + 1 ∧ b < (w1.setCell ⟨w.heap.size + 1, 0, none⟩ (.int .i64 9)).heap.size) (w1.setCell ⟨w.heap.size + 1, 0, none⟩ (.int .i64 9)) (by decide) hE none_d3 (fun b hb => hb.2.2) (at_maxlen HMX.out hb2) none_s3
    clear hE hb2 k01 k02 k03
    go_wp2_with fail
    refine HC.mono ?_
    rintro e w2 ⟨s, rfl, hs, hb3⟩
    obtain rfl : s = [] := none_no hs none_e3
    have HB3 := Lib.hid (HB2.out.trans (hb3.mono (by rw [hzn]; omega)))
    have HA := printAwake w2 (at_maxlen HMX.out HB3.out)
    clear hs hb3 HC
    go_wp2_with fail
    refine HA.mono ?_
    rintro e w3 ⟨rfl, hb4⟩
    have HB4 := Lib.hid (HB3.out.trans (hb4.mono HB3.out.size))
    clear hb4 HA
    go_wp2_with fail
    go_ret
    exact ⟨rfl, HB4.out⟩
  · have HU := Lib.hid eu
    have hu : bits .and .i64 n 7 = 4 := eu
    have k01 : (w1.setCell ⟨w.heap.size + 2, 4, none⟩ (.slice (some ⟨w1.heap.size, 0, none⟩) 1 1)).heap[w.heap.size + 1]? = some (.cells #[.int .i64 1, .string ⟨#[]⟩, .string ⟨#[97]⟩, .string ⟨#[]⟩, .slice none 0 0, .slice none 0 0, .slice none 0 0] 49 (0, 0)) := (Below.heap_setCell _ _ _ _ (show (w.heap.size + 1 : Nat) ≠ w.heap.size + 2 by omega)).trans (HG.out.1)
    have k02 : (w1.setCell ⟨w.heap.size + 2, 4, none⟩ (.slice (some ⟨w1.heap.size, 0, none⟩) 1 1)).heap[w.heap.size + 2]? = some (.cells #[.bool false, .string ⟨#[]⟩, .slice none 0 0, .slice none 0 0, .slice (some ⟨w1.heap.size, 0, none⟩) 1 1] 45 (0, 0)) := by rw [Lib.heap_setCell_same (HG.out.2.1)]; rfl
    have k03 : (w1.setCell ⟨w.heap.size + 2, 4, none⟩ (.slice (some ⟨w1.heap.size, 0, none⟩) 1 1)).heap[w.heap.size + 3]? = some (.cells #[.slice (some ⟨w.heap.size + 2, 0, none⟩) 1 1, .slice none 0 0] 25 (0, 0)) := (Below.heap_setCell _ _ _ _ (show (w.heap.size + 3 : Nat) ≠ w.heap.size + 2 by omega)).trans (HG.out.2.2)
    have hzs : (w1.setCell ⟨w.heap.size + 2, 4, none⟩ (.slice (some ⟨w1.heap.size, 0, none⟩) 1 1)).heap.size = w1.heap.size := by simp [World.setCell]
    have j1 : ((w1.setCell ⟨w.heap.size + 2, 4, none⟩ (.slice (some ⟨w1.heap.size, 0, none⟩) 1 1)).alloc (.cells #[.int .i64 2, .string ⟨#[]⟩, .string ⟨#[111, 110]⟩, .string ⟨#[]⟩, .slice none 0 0, .slice none 0 0, .slice none 0 0] 49)).heap[w.heap.size + 1]? = some (.cells #[.int .i64 1, .string ⟨#[]⟩, .string ⟨#[97]⟩, .string ⟨#[]⟩, .slice none 0 0, .slice none 0 0, .slice none 0 0] 49 (0, 0)) := (Below.heap_alloc _ _ _ (by rw [hzs]; omega)).trans k01
    have j2 : ((w1.setCell ⟨w.heap.size + 2, 4, none⟩ (.slice (some ⟨w1.heap.size, 0, none⟩) 1 1)).alloc (.cells #[.int .i64 2, .string ⟨#[]⟩, .string ⟨#[111, 110]⟩, .string ⟨#[]⟩, .slice none 0 0, .slice none 0 0, .slice none 0 0] 49)).heap[w.heap.size + 2]? = some (.cells #[.bool false, .string ⟨#[]⟩, .slice none 0 0, .slice none 0 0, .slice (some ⟨w1.heap.size, 0, none⟩) 1 1] 45 (0, 0)) := (Below.heap_alloc _ _ _ (by rw [hzs]; omega)).trans k02
    have j3 : ((w1.setCell ⟨w.heap.size + 2, 4, none⟩ (.slice (some ⟨w1.heap.size, 0, none⟩) 1 1)).alloc (.cells #[.int .i64 2, .string ⟨#[]⟩, .string ⟨#[111, 110]⟩, .string ⟨#[]⟩, .slice none 0 0, .slice none 0 0, .slice none 0 0] 49)).heap[w.heap.size + 3]? = some (.cells #[.slice (some ⟨w.heap.size + 2, 0, none⟩) 1 1, .slice none 0 0] 25 (0, 0)) := (Below.heap_alloc _ _ _ (by rw [hzs]; omega)).trans k03
    have jn : ((w1.setCell ⟨w.heap.size + 2, 4, none⟩ (.slice (some ⟨w1.heap.size, 0, none⟩) 1 1)).alloc (.cells #[.int .i64 2, .string ⟨#[]⟩, .string ⟨#[111, 110]⟩, .string ⟨#[]⟩, .slice none 0 0, .slice none 0 0, .slice none 0 0] 49)).heap[w1.heap.size]? = some (.cells #[.int .i64 2, .string ⟨#[]⟩, .string ⟨#[111, 110]⟩, .string ⟨#[]⟩, .slice none 0 0, .slice none 0 0, .slice none 0 0] 49 (0, 0)) := by have := heap_alloc_new (w1.setCell ⟨w.heap.size + 2, 4, none⟩ (.slice (some ⟨w1.heap.size, 0, none⟩) 1 1)) (.cells #[.int .i64 2, .string ⟨#[]⟩, .string ⟨#[111, 110]⟩, .string ⟨#[]⟩, .slice none 0 0, .slice none 0 0, .slice none 0 0] 49); rwa [hzs] at this
    have hzn : ((w1.setCell ⟨w.heap.size + 2, 4, none⟩ (.slice (some ⟨w1.heap.size, 0, none⟩) 1 1)).alloc (.cells #[.int .i64 2, .string ⟨#[]⟩, .string ⟨#[111, 110]⟩, .string ⟨#[]⟩, .slice none 0 0, .slice none 0 0, .slice none 0 0] 49)).heap.size = w1.heap.size + 1 := by rw [show ((w1.setCell ⟨w.heap.size + 2, 4, none⟩ (.slice (some ⟨w1.heap.size, 0, none⟩) 1 1)).alloc (.cells #[.int .i64 2, .string ⟨#[]⟩, .string ⟨#[111, 110]⟩, .string ⟨#[]⟩, .slice none 0 0, .slice none 0 0, .slice none 0 0] 49)).heap.size = (w1.setCell ⟨w.heap.size + 2, 4, none⟩ (.slice (some ⟨w1.heap.size, 0, none⟩) 1 1)).heap.size + 1 by simp, hzs]
    have hb2 : Below w.heap.size w ((w1.setCell ⟨w.heap.size + 2, 4, none⟩ (.slice (some ⟨w1.heap.size, 0, none⟩) 1 1)).alloc (.cells #[.int .i64 2, .string ⟨#[]⟩, .string ⟨#[111, 110]⟩, .string ⟨#[]⟩, .slice none 0 0, .slice none 0 0, .slice none 0 0] 49)) := (HB1.out.setCell (p := ⟨w.heap.size + 2, 4, none⟩) (by show w.heap.size ≤ w.heap.size + 2; omega) (.slice (some ⟨w1.heap.size, 0, none⟩) 1 1)).alloc (by rw [hzs]; omega) _
    obtain ⟨d0, d1, df, dl⟩ := bk2 j3
    have HB2 := Lib.hid hb2
    have hS := row_one1 (E := SelE 1) (x := .mk 2 [] [111, 110] [] [] [] []) (W := ((w1.setCell ⟨w.heap.size + 2, 4, none⟩ (.slice (some ⟨w1.heap.size, 0, none⟩) 1 1)).alloc (.cells #[.int .i64 2, .string ⟨#[]⟩, .string ⟨#[111, 110]⟩, .string ⟨#[]⟩, .slice none 0 0, .slice none 0 0, .slice none 0 0] 49))) (D := fun b => w.heap.size ≤ b ∧ b < w1.heap.size + 1 ∧ b < ((w1.setCell ⟨w.heap.size + 2, 4, none⟩ (.slice (some ⟨w1.heap.size, 0, none⟩) 1 1)).alloc (.cells #[.int .i64 2, .string ⟨#[]⟩, .string ⟨#[111, 110]⟩, .string ⟨#[]⟩, .slice none 0 0, .slice none 0 0, .slice none 0 0] 49)).heap.size) (cs := [.int .i64 2, .string ⟨#[]⟩, .string ⟨#[111, 110]⟩, .string ⟨#[]⟩, .slice none 0 0, .slice none 0 0, .slice none 0 0]) jn rfl (by refine ⟨?_, ?_, ?_⟩ <;> (try rw [hzn]) <;> omega) ⟨⟨by decide, by decide, by decide⟩, _, _, _, rfl, .nil, .nil, .nil⟩
    have hE : DocE ((w1.setCell ⟨w.heap.size + 2, 4, none⟩ (.slice (some ⟨w1.heap.size, 0, none⟩) 1 1)).alloc (.cells #[.int .i64 2, .string ⟨#[]⟩, .string ⟨#[111, 110]⟩, .string ⟨#[]⟩, .slice none 0 0, .slice none 0 0, .slice none 0 0] 49)) (fun b => w.heap.size ≤ b ∧ b < w1.heap.size + 1 ∧ b < ((w1.setCell ⟨w.heap.size + 2, 4, none⟩ (.slice (some ⟨w1.heap.size, 0, none⟩) 1 1)).alloc (.cells #[.int .i64 2, .string ⟨#[]⟩, .string ⟨#[111, 110]⟩, .string ⟨#[]⟩, .slice none 0 0, .slice none 0 0, .slice none 0 0] 49)).heap.size) (noneD 4) (.agg #[.slice (some ⟨w.heap.size + 2, 0, none⟩) 1 1, .slice none 0 0]) := ⟨_, _, rfl, row_one1 (E := OpE) (cs := [.bool false, .string ⟨#[]⟩, .slice none 0 0, .slice none 0 0, .slice (some ⟨w1.heap.size, 0, none⟩) 1 1]) j2 rfl (by refine ⟨?_, ?_, ?_⟩ <;> (try rw [hzn]) <;> omega) ⟨by decide, _, _, _, rfl, .nil, .nil, 1, hS⟩, .nil⟩
    have HC := printDoc_any (n := 2) (D := fun b => w.heap.size ≤ b ∧ b < w1.heap.size + 1 ∧ b < ((w1.setCell ⟨w.heap.size + 2, 4, none⟩ (.slice (some ⟨w1.heap.size, 0, none⟩) 1 1)).alloc (.cells #[.int .i64 2, .string ⟨#[]⟩, .string ⟨#[111, 110]⟩, .string ⟨#[]⟩, .slice none 0 0, .slice none 0 0, .slice none 0 0] 49)).heap.size) ((w1.setCell ⟨w.heap.size + 2, 4, none⟩ (.slice (some ⟨w1.heap.size, 0, none⟩) 1 1)).alloc (.cells #[.int .i64 2, .string ⟨#[]⟩, .string ⟨#[111, 110]⟩, .string ⟨#[]⟩, .slice none 0 0, .slice none 0 0, .slice none 0 0] 49)) (by decide) hE none_d4 (fun b hb => hb.2.2) (at_maxlen HMX.out hb2) none_s4
    clear hE hb2 k01 k02 k03 j1 j2 j3 jn
    go_wp2_with fail
    refine HC.mono ?_
    rintro e w2 ⟨s, rfl, hs, hb3⟩
    obtain rfl : s = [] := none_no hs none_e4
    have HB3 := Lib.hid (HB2.out.trans (hb3.mono (by rw [hzn]; omega)))
    have HA := printAwake w2 (at_maxlen HMX.out HB3.out)
    clear hs hb3 HC
    go_wp2_with fail
    refine HA.mono ?_
    rintro e w3 ⟨rfl, hb4⟩
    have HB4 := Lib.hid (HB3.out.trans (hb4.mono HB3.out.size))
    clear hb4 HA
    go_wp2_with fail
    go_ret
    exact ⟨rfl, HB4.out⟩
  · have HU := Lib.hid eu
    have hu : bits .and .i64 n 7 = 5 := eu
    have k01 : (w1.setCell ⟨w.heap.size + 1, 4, none⟩ (.slice (some ⟨w1.heap.size, 0, none⟩) 1 1)).heap[w.heap.size + 1]? = some (.cells #[.int .i64 1, .string ⟨#[]⟩, .string ⟨#[97]⟩, .string ⟨#[]⟩, .slice (some ⟨w1.heap.size, 0, none⟩) 1 1, .slice none 0 0, .slice none 0 0] 49 (0, 0)) := by rw [Lib.heap_setCell_same (HG.out.1)]; rfl
    have k02 : (w1.setCell ⟨w.heap.size + 1, 4, none⟩ (.slice (some ⟨w1.heap.size, 0, none⟩) 1 1)).heap[w.heap.size + 2]? = some (.cells #[.bool false, .string ⟨#[]⟩, .slice none 0 0, .slice none 0 0, .slice (some ⟨w.heap.size + 1, 0, none⟩) 1 1] 45 (0, 0)) := (Below.heap_setCell _ _ _ _ (show (w.heap.size + 2 : Nat) ≠ w.heap.size + 1 by omega)).trans (HG.out.2.1)
    have k03 : (w1.setCell ⟨w.heap.size + 1, 4, none⟩ (.slice (some ⟨w1.heap.size, 0, none⟩) 1 1)).heap[w.heap.size + 3]? = some (.cells #[.slice (some ⟨w.heap.size + 2, 0, none⟩) 1 1, .slice none 0 0] 25 (0, 0)) := (Below.heap_setCell _ _ _ _ (show (w.heap.size + 3 : Nat) ≠ w.heap.size + 1 by omega)).trans (HG.out.2.2)
    have hzs : (w1.setCell ⟨w.heap.size + 1, 4, none⟩ (.slice (some ⟨w1.heap.size, 0, none⟩) 1 1)).heap.size = w1.heap.size := by simp [World.setCell]
    have j1 : ((w1.setCell ⟨w.heap.size + 1, 4, none⟩ (.slice (some ⟨w1.heap.size, 0, none⟩) 1 1)).alloc (.cells #[.string ⟨#[120]⟩, .int .i64 0, .string ⟨#[]⟩, .slice none 0 0, .slice none 0 0] 55)).heap[w.heap.size + 1]? = some (.cells #[.int .i64 1, .string ⟨#[]⟩, .string ⟨#[97]⟩, .string ⟨#[]⟩, .slice (some ⟨w1.heap.size, 0, none⟩) 1 1, .slice none 0 0, .slice none 0 0] 49 (0, 0)) := (Below.heap_alloc _ _ _ (by rw [hzs]; omega)).trans k01
    have j2 : ((w1.setCell ⟨w.heap.size + 1, 4, none⟩ (.slice (some ⟨w1.heap.size, 0, none⟩) 1 1)).alloc (.cells #[.string ⟨#[120]⟩, .int .i64 0, .string ⟨#[]⟩, .slice none 0 0, .slice none 0 0] 55)).heap[w.heap.size + 2]? = some (.cells #[.bool false, .string ⟨#[]⟩, .slice none 0 0, .slice none 0 0, .slice (some ⟨w.heap.size + 1, 0, none⟩) 1 1] 45 (0, 0)) := (Below.heap_alloc _ _ _ (by rw [hzs]; omega)).trans k02
    have j3 : ((w1.setCell ⟨w.heap.size + 1, 4, none⟩ (.slice (some ⟨w1.heap.size, 0, none⟩) 1 1)).alloc (.cells #[.string ⟨#[120]⟩, .int .i64 0, .string ⟨#[]⟩, .slice none 0 0, .slice none 0 0] 55)).heap[w.heap.size + 3]? = some (.cells #[.slice (some ⟨w.heap.size + 2, 0, none⟩) 1 1, .slice none 0 0] 25 (0, 0)) := (Below.heap_alloc _ _ _ (by rw [hzs]; omega)).trans k03
    have jn : ((w1.setCell ⟨w.heap.size + 1, 4, none⟩ (.slice (some ⟨w1.heap.size, 0, none⟩) 1 1)).alloc (.cells #[.string ⟨#[120]⟩, .int .i64 0, .string ⟨#[]⟩, .slice none 0 0, .slice none 0 0] 55)).heap[w1.heap.size]? = some (.cells #[.string ⟨#[120]⟩, .int .i64 0, .string ⟨#[]⟩, .slice none 0 0, .slice none 0 0] 55 (0, 0)) := by have := heap_alloc_new (w1.setCell ⟨w.heap.size + 1, 4, none⟩ (.slice (some ⟨w1.heap.size, 0, none⟩) 1 1)) (.cells #[.string ⟨#[120]⟩, .int .i64 0, .string ⟨#[]⟩, .slice none 0 0, .slice none 0 0] 55); rwa [hzs] at this
    have hzn : ((w1.setCell ⟨w.heap.size + 1, 4, none⟩ (.slice (some ⟨w1.heap.size, 0, none⟩) 1 1)).alloc (.cells #[.string ⟨#[120]⟩, .int .i64 0, .string ⟨#[]⟩, .slice none 0 0, .slice none 0 0] 55)).heap.size = w1.heap.size + 1 := by rw [show ((w1.setCell ⟨w.heap.size + 1, 4, none⟩ (.slice (some ⟨w1.heap.size, 0, none⟩) 1 1)).alloc (.cells #[.string ⟨#[120]⟩, .int .i64 0, .string ⟨#[]⟩, .slice none 0 0, .slice none 0 0] 55)).heap.size = (w1.setCell ⟨w.heap.size + 1, 4, none⟩ (.slice (some ⟨w1.heap.size, 0, none⟩) 1 1)).heap.size + 1 by simp, hzs]
    have hb2 : Below w.heap.size w ((w1.setCell ⟨w.heap.size + 1, 4, none⟩ (.slice (some ⟨w1.heap.size, 0, none⟩) 1 1)).alloc (.cells #[.string ⟨#[120]⟩, .int .i64 0, .string ⟨#[]⟩, .slice none 0 0, .slice none 0 0] 55)) := (HB1.out.setCell (p := ⟨w.heap.size + 1, 4, none⟩) (by show w.heap.size ≤ w.heap.size + 1; omega) (.slice (some ⟨w1.heap.size, 0, none⟩) 1 1)).alloc (by rw [hzs]; omega) _
    obtain ⟨d0, d1, df, dl⟩ := bk2 j3
    have HB2 := Lib.hid hb2
    have hA := row_one1 (E := ArgE) (x := ([120], vz)) (W := ((w1.setCell ⟨w.heap.size + 1, 4, none⟩ (.slice (some ⟨w1.heap.size, 0, none⟩) 1 1)).alloc (.cells #[.string ⟨#[120]⟩, .int .i64 0, .string ⟨#[]⟩, .slice none 0 0, .slice none 0 0] 55))) (D := fun b => w.heap.size ≤ b ∧ b < w1.heap.size + 1 ∧ b < ((w1.setCell ⟨w.heap.size + 1, 4, none⟩ (.slice (some ⟨w1.heap.size, 0, none⟩) 1 1)).alloc (.cells #[.string ⟨#[120]⟩, .int .i64 0, .string ⟨#[]⟩, .slice none 0 0, .slice none 0 0] 55)).heap.size) (cs := [.string ⟨#[120]⟩, .int .i64 0, .string ⟨#[]⟩, .slice none 0 0, .slice none 0 0]) jn rfl (by refine ⟨?_, ?_, ?_⟩ <;> (try rw [hzn]) <;> omega) ⟨⟨by decide, vs_vz⟩, _, _, _, _, rfl, 1, rd_leaf _ _ 0 0 ⟨#[]⟩ (Nat.zero_le _)⟩
    have hS := row_one1 (E := SelE 1) (x := .mk 1 [] [97] [] [([120], vz)] [] []) (W := ((w1.setCell ⟨w.heap.size + 1, 4, none⟩ (.slice (some ⟨w1.heap.size, 0, none⟩) 1 1)).alloc (.cells #[.string ⟨#[120]⟩, .int .i64 0, .string ⟨#[]⟩, .slice none 0 0, .slice none 0 0] 55))) (D := fun b => w.heap.size ≤ b ∧ b < w1.heap.size + 1 ∧ b < ((w1.setCell ⟨w.heap.size + 1, 4, none⟩ (.slice (some ⟨w1.heap.size, 0, none⟩) 1 1)).alloc (.cells #[.string ⟨#[120]⟩, .int .i64 0, .string ⟨#[]⟩, .slice none 0 0, .slice none 0 0] 55)).heap.size) (cs := [.int .i64 1, .string ⟨#[]⟩, .string ⟨#[97]⟩, .string ⟨#[]⟩, .slice (some ⟨w1.heap.size, 0, none⟩) 1 1, .slice none 0 0, .slice none 0 0]) j1 rfl (by refine ⟨?_, ?_, ?_⟩ <;> (try rw [hzn]) <;> omega) ⟨⟨by decide, by decide, by decide⟩, _, _, _, rfl, hA, .nil, .nil⟩
    have hE : DocE ((w1.setCell ⟨w.heap.size + 1, 4, none⟩ (.slice (some ⟨w1.heap.size, 0, none⟩) 1 1)).alloc (.cells #[.string ⟨#[120]⟩, .int .i64 0, .string ⟨#[]⟩, .slice none 0 0, .slice none 0 0] 55)) (fun b => w.heap.size ≤ b ∧ b < w1.heap.size + 1 ∧ b < ((w1.setCell ⟨w.heap.size + 1, 4, none⟩ (.slice (some ⟨w1.heap.size, 0, none⟩) 1 1)).alloc (.cells #[.string ⟨#[120]⟩, .int .i64 0, .string ⟨#[]⟩, .slice none 0 0, .slice none 0 0] 55)).heap.size) (noneD 5) (.agg #[.slice (some ⟨w.heap.size + 2, 0, none⟩) 1 1, .slice none 0 0]) := ⟨_, _, rfl, row_one1 (E := OpE) (cs := [.bool false, .string ⟨#[]⟩, .slice none 0 0, .slice none 0 0, .slice (some ⟨w.heap.size + 1, 0, none⟩) 1 1]) j2 rfl (by refine ⟨?_, ?_, ?_⟩ <;> (try rw [hzn]) <;> omega) ⟨by decide, _, _, _, rfl, .nil, .nil, 1, hS⟩, .nil⟩
    have HC := printDoc_any (n := 2) (D := fun b => w.heap.size ≤ b ∧ b < w1.heap.size + 1 ∧ b < ((w1.setCell ⟨w.heap.size + 1, 4, none⟩ (.slice (some ⟨w1.heap.size, 0, none⟩) 1 1)).alloc (.cells #[.string ⟨#[120]⟩, .int .i64 0, .string ⟨#[]⟩, .slice none 0 0, .slice none 0 0] 55)).heap.size) ((w1.setCell ⟨w.heap.size + 1, 4, none⟩ (.slice (some ⟨w1.heap.size, 0, none⟩) 1 1)).alloc (.cells #[.string ⟨#[120]⟩, .int .i64 0, .string ⟨#[]⟩, .slice none 0 0, .slice none 0 0] 55)) (by decide) hE none_d5 (fun b hb => hb.2.2) (at_maxlen HMX.out hb2) none_s5
    clear hE hb2 k01 k02 k03 j1 j2 j3 jn
    go_wp2_with fail
    refine HC.mono ?_
    rintro e w2 ⟨s, rfl, hs, hb3⟩
    obtain rfl : s = [] := none_no hs none_e5
    have HB3 := Lib.hid (HB2.out.trans (hb3.mono (by rw [hzn]; omega)))
    have HA := printAwake w2 (at_maxlen HMX.out HB3.out)
    clear hs hb3 HC
    go_wp2_with fail
    refine HA.mono ?_
    rintro e w3 ⟨rfl, hb4⟩
    have HB4 := Lib.hid (HB3.out.trans (hb4.mono HB3.out.size))
    clear hb4 HA
    go_wp2_with fail
    go_ret
    exact ⟨rfl, HB4.out⟩
  · have HU := Lib.hid eu
    have hu : bits .and .i64 n 7 = 6 := eu
    have k01 : (w1.setCell ⟨w.heap.size + 2, 2, none⟩ (.slice (some ⟨w1.heap.size, 0, none⟩) 1 1)).heap[w.heap.size + 1]? = some (.cells #[.int .i64 1, .string ⟨#[]⟩, .string ⟨#[97]⟩, .string ⟨#[]⟩, .slice none 0 0, .slice none 0 0, .slice none 0 0] 49 (0, 0)) := (Below.heap_setCell _ _ _ _ (show (w.heap.size + 1 : Nat) ≠ w.heap.size + 2 by omega)).trans (HG.out.1)
    have k02 : (w1.setCell ⟨w.heap.size + 2, 2, none⟩ (.slice (some ⟨w1.heap.size, 0, none⟩) 1 1)).heap[w.heap.size + 2]? = some (.cells #[.bool false, .string ⟨#[]⟩, .slice (some ⟨w1.heap.size, 0, none⟩) 1 1, .slice none 0 0, .slice (some ⟨w.heap.size + 1, 0, none⟩) 1 1] 45 (0, 0)) := by rw [Lib.heap_setCell_same (HG.out.2.1)]; rfl
    have k03 : (w1.setCell ⟨w.heap.size + 2, 2, none⟩ (.slice (some ⟨w1.heap.size, 0, none⟩) 1 1)).heap[w.heap.size + 3]? = some (.cells #[.slice (some ⟨w.heap.size + 2, 0, none⟩) 1 1, .slice none 0 0] 25 (0, 0)) := (Below.heap_setCell _ _ _ _ (show (w.heap.size + 3 : Nat) ≠ w.heap.size + 2 by omega)).trans (HG.out.2.2)
    have hzs : (w1.setCell ⟨w.heap.size + 2, 2, none⟩ (.slice (some ⟨w1.heap.size, 0, none⟩) 1 1)).heap.size = w1.heap.size := by simp [World.setCell]
    have j1 : ((w1.setCell ⟨w.heap.size + 2, 2, none⟩ (.slice (some ⟨w1.heap.size, 0, none⟩) 1 1)).alloc (.cells #[.string ⟨#[118]⟩, .string ⟨#[84]⟩, .string ⟨#[]⟩, .int .i64 9, .string ⟨#[119]⟩, .slice none 0 0, .slice none 0 0] 59)).heap[w.heap.size + 1]? = some (.cells #[.int .i64 1, .string ⟨#[]⟩, .string ⟨#[97]⟩, .string ⟨#[]⟩, .slice none 0 0, .slice none 0 0, .slice none 0 0] 49 (0, 0)) := (Below.heap_alloc _ _ _ (by rw [hzs]; omega)).trans k01
    have j2 : ((w1.setCell ⟨w.heap.size + 2, 2, none⟩ (.slice (some ⟨w1.heap.size, 0, none⟩) 1 1)).alloc (.cells #[.string ⟨#[118]⟩, .string ⟨#[84]⟩, .string ⟨#[]⟩, .int .i64 9, .string ⟨#[119]⟩, .slice none 0 0, .slice none 0 0] 59)).heap[w.heap.size + 2]? = some (.cells #[.bool false, .string ⟨#[]⟩, .slice (some ⟨w1.heap.size, 0, none⟩) 1 1, .slice none 0 0, .slice (some ⟨w.heap.size + 1, 0, none⟩) 1 1] 45 (0, 0)) := (Below.heap_alloc _ _ _ (by rw [hzs]; omega)).trans k02
    have j3 : ((w1.setCell ⟨w.heap.size + 2, 2, none⟩ (.slice (some ⟨w1.heap.size, 0, none⟩) 1 1)).alloc (.cells #[.string ⟨#[118]⟩, .string ⟨#[84]⟩, .string ⟨#[]⟩, .int .i64 9, .string ⟨#[119]⟩, .slice none 0 0, .slice none 0 0] 59)).heap[w.heap.size + 3]? = some (.cells #[.slice (some ⟨w.heap.size + 2, 0, none⟩) 1 1, .slice none 0 0] 25 (0, 0)) := (Below.heap_alloc _ _ _ (by rw [hzs]; omega)).trans k03
    have jn : ((w1.setCell ⟨w.heap.size + 2, 2, none⟩ (.slice (some ⟨w1.heap.size, 0, none⟩) 1 1)).alloc (.cells #[.string ⟨#[118]⟩, .string ⟨#[84]⟩, .string ⟨#[]⟩, .int .i64 9, .string ⟨#[119]⟩, .slice none 0 0, .slice none 0 0] 59)).heap[w1.heap.size]? = some (.cells #[.string ⟨#[118]⟩, .string ⟨#[84]⟩, .string ⟨#[]⟩, .int .i64 9, .string ⟨#[119]⟩, .slice none 0 0, .slice none 0 0] 59 (0, 0)) := by have := heap_alloc_new (w1.setCell ⟨w.heap.size + 2, 2, none⟩ (.slice (some ⟨w1.heap.size, 0, none⟩) 1 1)) (.cells #[.string ⟨#[118]⟩, .string ⟨#[84]⟩, .string ⟨#[]⟩, .int .i64 9, .string ⟨#[119]⟩, .slice none 0 0, .slice none 0 0] 59); rwa [hzs] at this
    have hzn : ((w1.setCell ⟨w.heap.size + 2, 2, none⟩ (.slice (some ⟨w1.heap.size, 0, none⟩) 1 1)).alloc (.cells #[.string ⟨#[118]⟩, .string ⟨#[84]⟩, .string ⟨#[]⟩, .int .i64 9, .string ⟨#[119]⟩, .slice none 0 0, .slice none 0 0] 59)).heap.size = w1.heap.size + 1 := by rw [show ((w1.setCell ⟨w.heap.size + 2, 2, none⟩ (.slice (some ⟨w1.heap.size, 0, none⟩) 1 1)).alloc (.cells #[.string ⟨#[118]⟩, .string ⟨#[84]⟩, .string ⟨#[]⟩, .int .i64 9, .string ⟨#[119]⟩, .slice none 0 0, .slice none 0 0] 59)).heap.size = (w1.setCell ⟨w.heap.size + 2, 2, none⟩ (.slice (some ⟨w1.heap.size, 0, none⟩) 1 1)).heap.size + 1 by simp, hzs]
    have hb2 : Below w.heap.size w ((w1.setCell ⟨w.heap.size + 2, 2, none⟩ (.slice (some ⟨w1.heap.size, 0, none⟩) 1 1)).alloc (.cells #[.string ⟨#[118]⟩, .string ⟨#[84]⟩, .string ⟨#[]⟩, .int .i64 9, .string ⟨#[119]⟩, .slice none 0 0, .slice none 0 0] 59)) := (HB1.out.setCell (p := ⟨w.heap.size + 2, 2, none⟩) (by show w.heap.size ≤ w.heap.size + 2; omega) (.slice (some ⟨w1.heap.size, 0, none⟩) 1 1)).alloc (by rw [hzs]; omega) _
    obtain ⟨d0, d1, df, dl⟩ := bk2 j3
    have HB2 := Lib.hid hb2
    have hV := row_one1 (E := VarE) (x := ⟨[118], ([84], []), .mk 9 ⟨#[119]⟩ [] []⟩) (W := ((w1.setCell ⟨w.heap.size + 2, 2, none⟩ (.slice (some ⟨w1.heap.size, 0, none⟩) 1 1)).alloc (.cells #[.string ⟨#[118]⟩, .string ⟨#[84]⟩, .string ⟨#[]⟩, .int .i64 9, .string ⟨#[119]⟩, .slice none 0 0, .slice none 0 0] 59))) (D := fun b => w.heap.size ≤ b ∧ b < w1.heap.size + 1 ∧ b < ((w1.setCell ⟨w.heap.size + 2, 2, none⟩ (.slice (some ⟨w1.heap.size, 0, none⟩) 1 1)).alloc (.cells #[.string ⟨#[118]⟩, .string ⟨#[84]⟩, .string ⟨#[]⟩, .int .i64 9, .string ⟨#[119]⟩, .slice none 0 0, .slice none 0 0] 59)).heap.size) (cs := [.string ⟨#[118]⟩, .string ⟨#[84]⟩, .string ⟨#[]⟩, .int .i64 9, .string ⟨#[119]⟩, .slice none 0 0, .slice none 0 0]) jn rfl (by refine ⟨?_, ?_, ?_⟩ <;> (try rw [hzn]) <;> omega) ⟨⟨by decide, by decide, by decide, vs_leafN _ _ (by decide)⟩, _, _, _, _, rfl, 1, rd_leaf _ _ 0 9 ⟨#[119]⟩ (by decide)⟩
    have hS := row_one1 (E := SelE 1) (x := selA) (W := ((w1.setCell ⟨w.heap.size + 2, 2, none⟩ (.slice (some ⟨w1.heap.size, 0, none⟩) 1 1)).alloc (.cells #[.string ⟨#[118]⟩, .string ⟨#[84]⟩, .string ⟨#[]⟩, .int .i64 9, .string ⟨#[119]⟩, .slice none 0 0, .slice none 0 0] 59))) (D := fun b => w.heap.size ≤ b ∧ b < w1.heap.size + 1 ∧ b < ((w1.setCell ⟨w.heap.size + 2, 2, none⟩ (.slice (some ⟨w1.heap.size, 0, none⟩) 1 1)).alloc (.cells #[.string ⟨#[118]⟩, .string ⟨#[84]⟩, .string ⟨#[]⟩, .int .i64 9, .string ⟨#[119]⟩, .slice none 0 0, .slice none 0 0] 59)).heap.size) (cs := [.int .i64 1, .string ⟨#[]⟩, .string ⟨#[97]⟩, .string ⟨#[]⟩, .slice none 0 0, .slice none 0 0, .slice none 0 0]) j1 rfl (by refine ⟨?_, ?_, ?_⟩ <;> (try rw [hzn]) <;> omega) ⟨⟨by decide, by decide, by decide⟩, _, _, _, rfl, .nil, .nil, .nil⟩
    have hE : DocE ((w1.setCell ⟨w.heap.size + 2, 2, none⟩ (.slice (some ⟨w1.heap.size, 0, none⟩) 1 1)).alloc (.cells #[.string ⟨#[118]⟩, .string ⟨#[84]⟩, .string ⟨#[]⟩, .int .i64 9, .string ⟨#[119]⟩, .slice none 0 0, .slice none 0 0] 59)) (fun b => w.heap.size ≤ b ∧ b < w1.heap.size + 1 ∧ b < ((w1.setCell ⟨w.heap.size + 2, 2, none⟩ (.slice (some ⟨w1.heap.size, 0, none⟩) 1 1)).alloc (.cells #[.string ⟨#[118]⟩, .string ⟨#[84]⟩, .string ⟨#[]⟩, .int .i64 9, .string ⟨#[119]⟩, .slice none 0 0, .slice none 0 0] 59)).heap.size) (noneD 6) (.agg #[.slice (some ⟨w.heap.size + 2, 0, none⟩) 1 1, .slice none 0 0]) := ⟨_, _, rfl, row_one1 (E := OpE) (cs := [.bool false, .string ⟨#[]⟩, .slice (some ⟨w1.heap.size, 0, none⟩) 1 1, .slice none 0 0, .slice (some ⟨w.heap.size + 1, 0, none⟩) 1 1]) j2 rfl (by refine ⟨?_, ?_, ?_⟩ <;> (try rw [hzn]) <;> omega) ⟨by decide, _, _, _, rfl, hV, .nil, 1, hS⟩, .nil⟩
    have HC := printDoc_any (n := 2) (D := fun b => w.heap.size ≤ b ∧ b < w1.heap.size + 1 ∧ b < ((w1.setCell ⟨w.heap.size + 2, 2, none⟩ (.slice (some ⟨w1.heap.size, 0, none⟩) 1 1)).alloc (.cells #[.string ⟨#[118]⟩, .string ⟨#[84]⟩, .string ⟨#[]⟩, .int .i64 9, .string ⟨#[119]⟩, .slice none 0 0, .slice none 0 0] 59)).heap.size) ((w1.setCell ⟨w.heap.size + 2, 2, none⟩ (.slice (some ⟨w1.heap.size, 0, none⟩) 1 1)).alloc (.cells #[.string ⟨#[118]⟩, .string ⟨#[84]⟩, .string ⟨#[]⟩, .int .i64 9, .string ⟨#[119]⟩, .slice none 0 0, .slice none 0 0] 59)) (by decide) hE none_d6 (fun b hb => hb.2.2) (at_maxlen HMX.out hb2) none_s6
    clear hE hb2 k01 k02 k03 j1 j2 j3 jn
    go_wp2_with fail
    refine HC.mono ?_
    rintro e w2 ⟨s, rfl, hs, hb3⟩
    obtain rfl : s = [] := none_no hs none_e6
    have HB3 := Lib.hid (HB2.out.trans (hb3.mono (by rw [hzn]; omega)))
    have HA := printAwake w2 (at_maxlen HMX.out HB3.out)
    clear hs hb3 HC
    go_wp2_with fail
    refine HA.mono ?_
    rintro e w3 ⟨rfl, hb4⟩
    have HB4 := Lib.hid (HB3.out.trans (hb4.mono HB3.out.size))
    clear hb4 HA
    go_wp2_with fail
    go_ret
    exact ⟨rfl, HB4.out⟩
  · have HU := Lib.hid eu
    have hu : bits .and .i64 n 7 = 7 := eu
    have k01 : (w1.setCell ⟨w.heap.size + 3, 1, none⟩ (.slice (some ⟨w1.heap.size, 0, none⟩) 1 1)).heap[w.heap.size + 1]? = some (.cells #[.int .i64 1, .string ⟨#[]⟩, .string ⟨#[97]⟩, .string ⟨#[]⟩, .slice none 0 0, .slice none 0 0, .slice none 0 0] 49 (0, 0)) := (Below.heap_setCell _ _ _ _ (show (w.heap.size + 1 : Nat) ≠ w.heap.size + 3 by omega)).trans (HG.out.1)
    have k02 : (w1.setCell ⟨w.heap.size + 3, 1, none⟩ (.slice (some ⟨w1.heap.size, 0, none⟩) 1 1)).heap[w.heap.size + 2]? = some (.cells #[.bool false, .string ⟨#[]⟩, .slice none 0 0, .slice none 0 0, .slice (some ⟨w.heap.size + 1, 0, none⟩) 1 1] 45 (0, 0)) := (Below.heap_setCell _ _ _ _ (show (w.heap.size + 2 : Nat) ≠ w.heap.size + 3 by omega)).trans (HG.out.2.1)
    have k03 : (w1.setCell ⟨w.heap.size + 3, 1, none⟩ (.slice (some ⟨w1.heap.size, 0, none⟩) 1 1)).heap[w.heap.size + 3]? = some (.cells #[.slice (some ⟨w.heap.size + 2, 0, none⟩) 1 1, .slice (some ⟨w1.heap.size, 0, none⟩) 1 1] 25 (0, 0)) := by rw [Lib.heap_setCell_same (HG.out.2.2)]; rfl
    have hzs : (w1.setCell ⟨w.heap.size + 3, 1, none⟩ (.slice (some ⟨w1.heap.size, 0, none⟩) 1 1)).heap.size = w1.heap.size := by simp [World.setCell]
    have j1 : ((w1.setCell ⟨w.heap.size + 3, 1, none⟩ (.slice (some ⟨w1.heap.size, 0, none⟩) 1 1)).alloc (.cells #[.string ⟨#[70]⟩, .string ⟨#[84]⟩, .slice none 0 0, .slice none 0 0] 61)).heap[w.heap.size + 1]? = some (.cells #[.int .i64 1, .string ⟨#[]⟩, .string ⟨#[97]⟩, .string ⟨#[]⟩, .slice none 0 0, .slice none 0 0, .slice none 0 0] 49 (0, 0)) := (Below.heap_alloc _ _ _ (by rw [hzs]; omega)).trans k01
    have j2 : ((w1.setCell ⟨w.heap.size + 3, 1, none⟩ (.slice (some ⟨w1.heap.size, 0, none⟩) 1 1)).alloc (.cells #[.string ⟨#[70]⟩, .string ⟨#[84]⟩, .slice none 0 0, .slice none 0 0] 61)).heap[w.heap.size + 2]? = some (.cells #[.bool false, .string ⟨#[]⟩, .slice none 0 0, .slice none 0 0, .slice (some ⟨w.heap.size + 1, 0, none⟩) 1 1] 45 (0, 0)) := (Below.heap_alloc _ _ _ (by rw [hzs]; omega)).trans k02
    have j3 : ((w1.setCell ⟨w.heap.size + 3, 1, none⟩ (.slice (some ⟨w1.heap.size, 0, none⟩) 1 1)).alloc (.cells #[.string ⟨#[70]⟩, .string ⟨#[84]⟩, .slice none 0 0, .slice none 0 0] 61)).heap[w.heap.size + 3]? = some (.cells #[.slice (some ⟨w.heap.size + 2, 0, none⟩) 1 1, .slice (some ⟨w1.heap.size, 0, none⟩) 1 1] 25 (0, 0)) := (Below.heap_alloc _ _ _ (by rw [hzs]; omega)).trans k03
    have jn : ((w1.setCell ⟨w.heap.size + 3, 1, none⟩ (.slice (some ⟨w1.heap.size, 0, none⟩) 1 1)).alloc (.cells #[.string ⟨#[70]⟩, .string ⟨#[84]⟩, .slice none 0 0, .slice none 0 0] 61)).heap[w1.heap.size]? = some (.cells #[.string ⟨#[70]⟩, .string ⟨#[84]⟩, .slice none 0 0, .slice none 0 0] 61 (0, 0)) := by have := heap_alloc_new (w1.setCell ⟨w.heap.size + 3, 1, none⟩ (.slice (some ⟨w1.heap.size, 0, none⟩) 1 1)) (.cells #[.string ⟨#[70]⟩, .string ⟨#[84]⟩, .slice none 0 0, .slice none 0 0] 61); rwa [hzs] at this
    have hzn : ((w1.setCell ⟨w.heap.size + 3, 1, none⟩ (.slice (some ⟨w1.heap.size, 0, none⟩) 1 1)).alloc (.cells #[.string ⟨#[70]⟩, .string ⟨#[84]⟩, .slice none 0 0, .slice none 0 0] 61)).heap.size = w1.heap.size + 1 := by rw [show ((w1.setCell ⟨w.heap.size + 3, 1, none⟩ (.slice (some ⟨w1.heap.size, 0, none⟩) 1 1)).alloc (.cells #[.string ⟨#[70]⟩, .string ⟨#[84]⟩, .slice none 0 0, .slice none 0 0] 61)).heap.size = (w1.setCell ⟨w.heap.size + 3, 1, none⟩ (.slice (some ⟨w1.heap.size, 0, none⟩) 1 1)).heap.size + 1 by simp, hzs]
    have hb2 : Below w.heap.size w ((w1.setCell ⟨w.heap.size + 3, 1, none⟩ (.slice (some ⟨w1.heap.size, 0, none⟩) 1 1)).alloc (.cells #[.string ⟨#[70]⟩, .string ⟨#[84]⟩, .slice none 0 0, .slice none 0 0] 61)) := (HB1.out.setCell (p := ⟨w.heap.size + 3, 1, none⟩) (by show w.heap.size ≤ w.heap.size + 3; omega) (.slice (some ⟨w1.heap.size, 0, none⟩) 1 1)).alloc (by rw [hzs]; omega) _
    obtain ⟨d0, d1, df, dl⟩ := bk2 j3
    have HB2 := Lib.hid hb2
    have hF := row_one1 (E := FragE) (x := ⟨[70], [84], [], []⟩) (W := ((w1.setCell ⟨w.heap.size + 3, 1, none⟩ (.slice (some ⟨w1.heap.size, 0, none⟩) 1 1)).alloc (.cells #[.string ⟨#[70]⟩, .string ⟨#[84]⟩, .slice none 0 0, .slice none 0 0] 61))) (D := fun b => w.heap.size ≤ b ∧ b < w1.heap.size + 1 ∧ b < ((w1.setCell ⟨w.heap.size + 3, 1, none⟩ (.slice (some ⟨w1.heap.size, 0, none⟩) 1 1)).alloc (.cells #[.string ⟨#[70]⟩, .string ⟨#[84]⟩, .slice none 0 0, .slice none 0 0] 61)).heap.size) (cs := [.string ⟨#[70]⟩, .string ⟨#[84]⟩, .slice none 0 0, .slice none 0 0]) jn rfl (by refine ⟨?_, ?_, ?_⟩ <;> (try rw [hzn]) <;> omega) ⟨⟨by decide, by decide⟩, _, _, rfl, .nil, 0, .nil⟩
    have hS := row_one1 (E := SelE 1) (x := selA) (W := ((w1.setCell ⟨w.heap.size + 3, 1, none⟩ (.slice (some ⟨w1.heap.size, 0, none⟩) 1 1)).alloc (.cells #[.string ⟨#[70]⟩, .string ⟨#[84]⟩, .slice none 0 0, .slice none 0 0] 61))) (D := fun b => w.heap.size ≤ b ∧ b < w1.heap.size + 1 ∧ b < ((w1.setCell ⟨w.heap.size + 3, 1, none⟩ (.slice (some ⟨w1.heap.size, 0, none⟩) 1 1)).alloc (.cells #[.string ⟨#[70]⟩, .string ⟨#[84]⟩, .slice none 0 0, .slice none 0 0] 61)).heap.size) (cs := [.int .i64 1, .string ⟨#[]⟩, .string ⟨#[97]⟩, .string ⟨#[]⟩, .slice none 0 0, .slice none 0 0, .slice none 0 0]) j1 rfl (by refine ⟨?_, ?_, ?_⟩ <;> (try rw [hzn]) <;> omega) ⟨⟨by decide, by decide, by decide⟩, _, _, _, rfl, .nil, .nil, .nil⟩
    have hE : DocE ((w1.setCell ⟨w.heap.size + 3, 1, none⟩ (.slice (some ⟨w1.heap.size, 0, none⟩) 1 1)).alloc (.cells #[.string ⟨#[70]⟩, .string ⟨#[84]⟩, .slice none 0 0, .slice none 0 0] 61)) (fun b => w.heap.size ≤ b ∧ b < w1.heap.size + 1 ∧ b < ((w1.setCell ⟨w.heap.size + 3, 1, none⟩ (.slice (some ⟨w1.heap.size, 0, none⟩) 1 1)).alloc (.cells #[.string ⟨#[70]⟩, .string ⟨#[84]⟩, .slice none 0 0, .slice none 0 0] 61)).heap.size) (noneD 7) (.agg #[.slice (some ⟨w.heap.size + 2, 0, none⟩) 1 1, .slice (some ⟨w1.heap.size, 0, none⟩) 1 1]) := ⟨_, _, rfl, row_one1 (E := OpE) (cs := [.bool false, .string ⟨#[]⟩, .slice none 0 0, .slice none 0 0, .slice (some ⟨w.heap.size + 1, 0, none⟩) 1 1]) j2 rfl (by refine ⟨?_, ?_, ?_⟩ <;> (try rw [hzn]) <;> omega) ⟨by decide, _, _, _, rfl, .nil, .nil, 1, hS⟩, hF⟩
    have HC := printDoc_any (n := 2) (D := fun b => w.heap.size ≤ b ∧ b < w1.heap.size + 1 ∧ b < ((w1.setCell ⟨w.heap.size + 3, 1, none⟩ (.slice (some ⟨w1.heap.size, 0, none⟩) 1 1)).alloc (.cells #[.string ⟨#[70]⟩, .string ⟨#[84]⟩, .slice none 0 0, .slice none 0 0] 61)).heap.size) ((w1.setCell ⟨w.heap.size + 3, 1, none⟩ (.slice (some ⟨w1.heap.size, 0, none⟩) 1 1)).alloc (.cells #[.string ⟨#[70]⟩, .string ⟨#[84]⟩, .slice none 0 0, .slice none 0 0] 61)) (by decide) hE none_d7 (fun b hb => hb.2.2) (at_maxlen HMX.out hb2) none_s7
    clear hE hb2 k01 k02 k03 j1 j2 j3 jn
    go_wp2_with fail
    refine HC.mono ?_
    rintro e w2 ⟨s, rfl, hs, hb3⟩
    obtain rfl : s = [] := none_no hs none_e7
    have HB3 := Lib.hid (HB2.out.trans (hb3.mono (by rw [hzn]; omega)))
    have HA := printAwake w2 (at_maxlen HMX.out HB3.out)
    clear hs hb3 HC
    go_wp2_with fail
    refine HA.mono ?_
    rintro e w3 ⟨rfl, hb4⟩
    have HB4 := Lib.hid (HB3.out.trans (hb4.mono HB3.out.size))
    clear hb4 HA
    go_wp2_with fail
    go_ret
    exact ⟨rfl, HB4.out⟩

end Go.Proofs.YtkfllppggjhhmaaGreatDoor
