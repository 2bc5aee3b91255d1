/-
  What refectoryref01.bytes answers.
-/
import Derived.Test.YtakmkhkbeabgcaaDoorRef4
import Derived.Test.YtakmkhkbeabgcaaDoorEnc
namespace Go.Proofs.YtakmkhkbeabgcaaDoor
open Go.RowKit
open Go.Lib (encodeRune)

theorem mAnd63 (n : Int) : bits .and .i64 n 63 = n % 64 := by
  have e : (BitVec.ofInt 64 n &&& BitVec.ofInt 64 63).toNat = (n % ((2 ^ 64 : Nat) : Int)).toNat % 2 ^ 6 := by
    have h63 : (BitVec.ofInt 64 63).toNat = 2 ^ 6 - 1 := by decide
    rw [BitVec.toNat_and, BitVec.toNat_ofInt, h63, Nat.and_two_pow_sub_one_eq_mod]
  show IntKind.i64.wrap ((BitVec.ofInt 64 n &&& BitVec.ofInt 64 63).toNat : Nat) = n % 64
  rw [e, IntKind.wrap_i64]
  omega
theorem mOrTop (i : Nat) (_hi : i ≤ 20) (a x : Int) (ha : 0 ≤ a) (ha2 : a ≤ 255) (hm : a % 2 ^ i = 0) (h0 : 0 ≤ x) (hx : x < 2 ^ i) (hx2 : x ≤ 255) : bits .or .i64 a x = a + x :=
  bits_join .i64 40 (by decide) (fun n h0 h1 => by rw [IntKind.wrap_i64]; omega) i _ _ ha hm (by omega) h0 hx (by omega)

theorem cells_new (w : World) (vs : List Value) (T : TypeId) : ∀ j v, vs[j]? = some v → (w.alloc (.cells vs.toArray T)).cell? ((⟨w.heap.size, 0, none⟩ : Addr).add j) = some v := by
  intro j v h
  have hg : (w.alloc (.cells vs.toArray T)).heap[w.heap.size]? = some (.cells vs.toArray T (0, 0)) := heap_alloc_new w _
  have ea : (⟨w.heap.size, 0, none⟩ : Addr).add j = ⟨w.heap.size, j, none⟩ := by
    unfold Addr.add
    split
    · rename_i h0; rw [h0]
    · rw [Nat.zero_add]
  rw [ea, Lib.cell_of_heap hg]
  simpa using h

theorem conv_new (w : World) (ns : List Int) : (convert 43 9 (.slice (some ⟨w.heap.size, 0, none⟩) ns.length ns.length)).run Tryd.prog (w.alloc (.cells (ns.map (Value.int .u8)).toArray 5)) = .ok (.string ⟨(ns.map fun n => UInt8.ofNat n.toNat).toArray⟩) (w.alloc (.cells (ns.map (Value.int .u8)).toArray 5)) :=
  conv_bytes _ _ ns _ (cells_new w _ _)

theorem bytes_end {w : World} {ns : List Int} {ms : List Nat} {l : List UInt8} (h : l = ms.map UInt8.ofNat) (hn : ns = ms.map fun m : Nat => (m : Int)) : StrBelow w l (.returned (.string ⟨(ns.map fun n => UInt8.ofNat n.toNat).toArray⟩)) (w.alloc (.cells (ns.map (Value.int .u8)).toArray 5)) := by
  subst hn
  subst h
  refine ⟨?_, (Below.refl _ w).alloc (Nat.le_refl _) _⟩
  rw [List.map_map]
  rfl

set_option maxHeartbeats 2000000 in
set_option maxRecDepth 100000 in
theorem bytes_1 (v : Nat) (w : World) (h : v < 128) :
    Calls Tryd.prog 92 #[.int .i64 v] w (StrBelow w (encodeRune v)) := by
  have HE := Lib.hid (show encodeRune v = [v].map UInt8.ofNat by rw [enc_list v (by omega) (by omega), if_pos h]; rfl)
  have f1 : decide ((v : Int) < 128) = true := by simp; omega
  have u1 : IntKind.u8.wrap (v : Int) = (v : Int) := wraps_u8 _ (by omega) (by omega)
  have hcv := conv_new w [(v : Int)]
  simp only [List.map_cons, List.map_nil, List.length_cons, List.length_nil, Nat.zero_add] at hcv
  go_enter Tryd.func92, Tryd.ntmps92
  go_wp2_with fail
  go_ret
  exact bytes_end (ns := [(v : Int)]) (ms := [v]) HE.out rfl

set_option maxHeartbeats 2000000 in
set_option maxRecDepth 100000 in
theorem bytes_2 (v : Nat) (w : World) (h1 : 128 ≤ v) (h : v < 2048) :
    Calls Tryd.prog 92 #[.int .i64 v] w (StrBelow w (encodeRune v)) := by
  have HE := Lib.hid (show encodeRune v = [192 + v / 64, 128 + v % 64].map UInt8.ofNat by rw [enc_list v (by omega) (by omega), if_neg (by omega), if_pos h]; rfl)
  have f1 : decide ((v : Int) < 128) = false := by simp; omega
  have f2 : decide ((v : Int) < 2048) = true := by simp; omega
  have e1 := mOrTop 6 (by omega) 192 ((v : Int) / 64) (by omega) (by omega) (by decide) (by omega) (by omega) (by omega)
  have e2 := mAnd63 (v : Int)
  have e3 := mOrTop 6 (by omega) 128 ((v : Int) % 64) (by omega) (by omega) (by decide) (by omega) (by omega) (by omega)
  have u1 : IntKind.u8.wrap (192 + (v : Int) / 64) = 192 + (v : Int) / 64 := wraps_u8 _ (by omega) (by omega)
  have u2 : IntKind.u8.wrap (128 + (v : Int) % 64) = 128 + (v : Int) % 64 := wraps_u8 _ (by omega) (by omega)
  have hcv := conv_new w [192 + (v : Int) / 64, 128 + (v : Int) % 64]
  simp only [List.map_cons, List.map_nil, List.length_cons, List.length_nil, Nat.zero_add, Nat.reduceAdd] at hcv
  go_enter Tryd.func92, Tryd.ntmps92
  go_wp2_with fail
  go_ret
  exact bytes_end (ms := [192 + v / 64, 128 + v % 64]) (ns := [192 + (v : Int) / 64, 128 + (v : Int) % 64]) HE.out (by simp)

set_option maxHeartbeats 2000000 in
set_option maxRecDepth 100000 in
theorem bytes_3 (v : Nat) (w : World) (h1 : 2048 ≤ v) (h : v < 65536) (hh : ¬ (55296 ≤ v ∧ v ≤ 57343)) :
    Calls Tryd.prog 92 #[.int .i64 v] w (StrBelow w (encodeRune v)) := by
  have HE := Lib.hid (show encodeRune v = [224 + v / 4096, 128 + v / 64 % 64, 128 + v % 64].map UInt8.ofNat by rw [enc_list v (by omega) hh, if_neg (by omega), if_neg (by omega), if_pos h]; rfl)
  have f1 : decide ((v : Int) < 128) = false := by simp; omega
  have f2 : decide ((v : Int) < 2048) = false := by simp; omega
  have f3 : decide ((v : Int) < 65536) = true := by simp; omega
  have e1 := mOrTop 4 (by omega) 224 ((v : Int) / 4096) (by omega) (by omega) (by decide) (by omega) (by omega) (by omega)
  have e2 := mAnd63 (v : Int)
  have e3 := mOrTop 6 (by omega) 128 ((v : Int) % 64) (by omega) (by omega) (by decide) (by omega) (by omega) (by omega)
  have e4 := mAnd63 ((v : Int) / 64)
  have e5 := mOrTop 6 (by omega) 128 ((v : Int) / 64 % 64) (by omega) (by omega) (by decide) (by omega) (by omega) (by omega)
  have u1 : IntKind.u8.wrap (224 + (v : Int) / 4096) = 224 + (v : Int) / 4096 := wraps_u8 _ (by omega) (by omega)
  have u2 : IntKind.u8.wrap (128 + (v : Int) % 64) = 128 + (v : Int) % 64 := wraps_u8 _ (by omega) (by omega)
  have u3 : IntKind.u8.wrap (128 + (v : Int) / 64 % 64) = 128 + (v : Int) / 64 % 64 := wraps_u8 _ (by omega) (by omega)
  have hcv := conv_new w [224 + (v : Int) / 4096, 128 + (v : Int) / 64 % 64, 128 + (v : Int) % 64]
  simp only [List.map_cons, List.map_nil, List.length_cons, List.length_nil, Nat.zero_add, Nat.reduceAdd] at hcv
  clear hh
  go_enter Tryd.func92, Tryd.ntmps92
  go_wp2_with fail
  go_ret
  exact bytes_end (ms := [224 + v / 4096, 128 + v / 64 % 64, 128 + v % 64]) (ns := [224 + (v : Int) / 4096, 128 + (v : Int) / 64 % 64, 128 + (v : Int) % 64]) HE.out (by simp)

set_option maxHeartbeats 2000000 in
set_option maxRecDepth 100000 in
theorem bytes_4 (v : Nat) (w : World) (h1 : 65536 ≤ v) (h : v < 1114112) :
    Calls Tryd.prog 92 #[.int .i64 v] w (StrBelow w (encodeRune v)) := by
  have HE := Lib.hid (show encodeRune v = [240 + v / 262144, 128 + v / 4096 % 64, 128 + v / 64 % 64, 128 + v % 64].map UInt8.ofNat by rw [enc_list v (by omega) (by omega), if_neg (by omega), if_neg (by omega), if_neg (by omega)]; rfl)
  have f1 : decide ((v : Int) < 128) = false := by simp; omega
  have f2 : decide ((v : Int) < 2048) = false := by simp; omega
  have f3 : decide ((v : Int) < 65536) = false := by simp; omega
  have e1 := mOrTop 3 (by omega) 240 ((v : Int) / 262144) (by omega) (by omega) (by decide) (by omega) (by omega) (by omega)
  have e2 := mAnd63 (v : Int)
  have e3 := mOrTop 6 (by omega) 128 ((v : Int) % 64) (by omega) (by omega) (by decide) (by omega) (by omega) (by omega)
  have e4 := mAnd63 ((v : Int) / 64)
  have e5 := mOrTop 6 (by omega) 128 ((v : Int) / 64 % 64) (by omega) (by omega) (by decide) (by omega) (by omega) (by omega)
  have e6 := mAnd63 ((v : Int) / 4096)
  have e7 := mOrTop 6 (by omega) 128 ((v : Int) / 4096 % 64) (by omega) (by omega) (by decide) (by omega) (by omega) (by omega)
  have u1 : IntKind.u8.wrap (240 + (v : Int) / 262144) = 240 + (v : Int) / 262144 := wraps_u8 _ (by omega) (by omega)
  have u2 : IntKind.u8.wrap (128 + (v : Int) % 64) = 128 + (v : Int) % 64 := wraps_u8 _ (by omega) (by omega)
  have u3 : IntKind.u8.wrap (128 + (v : Int) / 64 % 64) = 128 + (v : Int) / 64 % 64 := wraps_u8 _ (by omega) (by omega)
  have u4 : IntKind.u8.wrap (128 + (v : Int) / 4096 % 64) = 128 + (v : Int) / 4096 % 64 := wraps_u8 _ (by omega) (by omega)
  have hcv := conv_new w [240 + (v : Int) / 262144, 128 + (v : Int) / 4096 % 64, 128 + (v : Int) / 64 % 64, 128 + (v : Int) % 64]
  simp only [List.map_cons, List.map_nil, List.length_cons, List.length_nil, Nat.zero_add, Nat.reduceAdd] at hcv
  go_enter Tryd.func92, Tryd.ntmps92
  go_wp2_with fail
  go_ret
  exact bytes_end (ms := [240 + v / 262144, 128 + v / 4096 % 64, 128 + v / 64 % 64, 128 + v % 64]) (ns := [240 + (v : Int) / 262144, 128 + (v : Int) / 4096 % 64, 128 + (v : Int) / 64 % 64, 128 + (v : Int) % 64]) HE.out (by simp)

theorem bytes_any (v : Nat) (w : World) (h : v < 1114112) (hh : ¬ (55296 ≤ v ∧ v ≤ 57343)) :
    Calls Tryd.prog 92 #[.int .i64 v] w (StrBelow w (encodeRune v)) := by
  by_cases h1 : v < 128
  · exact bytes_1 v w h1
  · by_cases h2 : v < 2048
    · exact bytes_2 v w (by omega) h2
    · by_cases h3 : v < 65536
      · exact bytes_3 v w (by omega) h3 hh
      · exact bytes_4 v w (by omega) h

end Go.Proofs.YtakmkhkbeabgcaaDoor
