/-
  Plain facts: four digits of sixteen behind a backslash and a u, read.
-/
import Derived.Test.YtakmkhkbeabgcaaDoorBack2
namespace Go.Proofs.YtakmkhkbeabgcaaDoor
open Go.Lib

theorem take_esc' (o : List UInt8) (k f : Int) : (St.mk o false 0 k f).take 92 = some ⟨o, true, 0, k, f⟩ := rfl
theorem take_u' (o : List UInt8) (k f : Int) : (St.mk o true 0 k f).take 117 = some ⟨o, false, 4, 0, f⟩ := rfl
theorem take_dig' (o : List UInt8) (d k f c : Int) (hd : 1 < d) (hv : 0 ≤ hexV c) : (St.mk o false d k f).take c = some ⟨o, false, d - 1, k * 16 + hexV c, f⟩ := by
  unfold St.take
  rw [if_pos (by simp only; omega)]
  unfold St.takeDigit
  rw [if_neg (by omega), if_pos (by exact hd)]
theorem take_last' (o : List UInt8) (k f c : Int) (hv : 0 ≤ hexV c) : (St.mk o false 1 k f).take c = St.takeCode ⟨o, false, 0, k * 16 + hexV c, f⟩ := by
  unfold St.take
  rw [if_pos (by simp)]
  unfold St.takeDigit
  rw [if_neg (by omega), if_neg (by simp)]
  rfl

theorem res_four (o t : List UInt8) (k f : Int) (x1 x2 x3 x4 : UInt8) (c : Int) (a1 : x1.toNat < 128) (a2 : x2.toNat < 128) (a3 : x3.toNat < 128) (a4 : x4.toNat < 128) (v1 : 0 ≤ hexV x1.toNat) (v2 : 0 ≤ hexV x2.toNat) (v3 : 0 ≤ hexV x3.toNat) (v4 : 0 ≤ hexV x4.toNat)
    (hc : c = ((hexV x1.toNat * 16 + hexV x2.toNat) * 16 + hexV x3.toNat) * 16 + hexV x4.toNat) : res (St.mk o false 0 k f) (92 :: 117 :: x1 :: x2 :: x3 :: x4 :: t) = (St.takeCode ⟨o, false, 0, c, f⟩).bind fun s' => res s' t := by
  have s1 : (St.mk o false 4 0 f).take x1.toNat = some ⟨o, false, 3, hexV x1.toNat, f⟩ := by
    rw [take_dig' o 4 0 f _ (by omega) v1]
    congr 2
    omega
  have s2 : (St.mk o false 3 (hexV x1.toNat) f).take x2.toNat = some ⟨o, false, 2, hexV x1.toNat * 16 + hexV x2.toNat, f⟩ := take_dig' o 3 _ f _ (by omega) v2
  have s3 : (St.mk o false 2 (hexV x1.toNat * 16 + hexV x2.toNat) f).take x3.toNat = some ⟨o, false, 1, (hexV x1.toNat * 16 + hexV x2.toNat) * 16 + hexV x3.toNat, f⟩ := take_dig' o 2 _ f _ (by omega) v3
  have s4 : (St.mk o false 1 ((hexV x1.toNat * 16 + hexV x2.toNat) * 16 + hexV x3.toNat) f).take x4.toNat = St.takeCode ⟨o, false, 0, c, f⟩ := by
    rw [take_last' _ _ _ _ v4, ← hc]
  rw [res_go (c := 92) (by decide) rfl (take_esc' o k f), res_go (c := 117) (by decide) rfl (take_u' o k f), res_go a1 rfl s1, res_go a2 rfl s2, res_go a3 rfl s3, res_cons _ _ _ a4, s4]

theorem code_plain (o : List UInt8) (c : Int) (h1 : half1 c = false) (h2 : half2 c = false) : St.takeCode ⟨o, false, 0, c, 0⟩ = some (St.clean (o ++ encodeRune c) c) := by
  unfold St.takeCode
  simp only [h1, h2]
  rfl
theorem code_first (o : List UInt8) (c : Int) (h1 : half1 c = true) (h2 : half2 c = false) : St.takeCode ⟨o, false, 0, c, 0⟩ = some ⟨o, false, 0, c, c⟩ := by
  unfold St.takeCode
  simp only [h1, h2]
  rfl
theorem code_second (o : List UInt8) (c : Int) (h2 : half2 c = true) : St.takeCode ⟨o, false, 0, c, 0⟩ = none := by
  unfold St.takeCode
  simp only [h2]
  rfl
theorem code_join (o : List UInt8) (c f : Int) (h2 : half2 c = true) (hf : f ≠ 0) : St.takeCode ⟨o, false, 0, c, f⟩ = some (St.clean (o ++ encodeRune (65536 + (f - 55296) * 1024 + (c - 56320))) c) := by
  unfold St.takeCode
  simp only [h2]
  unfold St.join
  rw [if_pos trivial, if_neg hf]
  rfl

/-- Four digits, as bytes, for a number. -/
structure Dig4 (n : Nat) (x1 x2 x3 x4 : UInt8) : Prop where
  a1 : x1.toNat < 128
  a2 : x2.toNat < 128
  a3 : x3.toNat < 128
  a4 : x4.toNat < 128
  v1 : hexV x1.toNat = (n / 4096 % 16 : Nat)
  v2 : hexV x2.toNat = (n / 256 % 16 : Nat)
  v3 : hexV x3.toNat = (n / 16 % 16 : Nat)
  v4 : hexV x4.toNat = (n % 16 : Nat)

theorem Dig4.res {n : Nat} {x1 x2 x3 x4 : UInt8} (h : Dig4 n x1 x2 x3 x4) (hn : n < 65536) (o t : List UInt8) (k f : Int) : Go.Proofs.YtakmkhkbeabgcaaDoor.res (St.mk o false 0 k f) (92 :: 117 :: x1 :: x2 :: x3 :: x4 :: t) = (St.takeCode ⟨o, false, 0, (n : Int), f⟩).bind fun s' => Go.Proofs.YtakmkhkbeabgcaaDoor.res s' t := by
  refine res_four o t k f x1 x2 x3 x4 n h.a1 h.a2 h.a3 h.a4 ?_ ?_ ?_ ?_ ?_
  · rw [h.v1]; omega
  · rw [h.v2]; omega
  · rw [h.v3]; omega
  · rw [h.v4]; omega
  · rw [h.v1, h.v2, h.v3, h.v4]; omega

theorem unq_of_res (b : List UInt8) (h : validD b = true) : unqP (34 :: (b ++ [34])) = Go.Proofs.YtakmkhkbeabgcaaDoor.res St.new b := by
  rw [unqP_yes (34 :: (b ++ [34])) ⟨by simp, by simp, last_of _ _ _, ?_⟩, inner_of]
  rw [validD_cons _ _ (by decide)]
  exact validD_both _ _ h (by decide +kernel)

theorem Dig4.low {n : Nat} {x1 x2 x3 x4 : UInt8} (h : Dig4 n x1 x2 x3 x4) : ∀ b ∈ [92, 117, x1, x2, x3, x4], b.toNat < 128 := by
  intro b hb
  simp at hb
  rcases hb with rfl | rfl | rfl | rfl | rfl | rfl
  · decide
  · decide
  · exact h.a1
  · exact h.a2
  · exact h.a3
  · exact h.a4

theorem unq_four_plain {n : Nat} {x1 x2 x3 x4 : UInt8} (h : Dig4 n x1 x2 x3 x4) (hn : n < 65536) (hh : ¬ (55296 ≤ n ∧ n ≤ 57343)) : unqP [34, 92, 117, x1, x2, x3, x4, 34] = some (encodeRune n) := by
  have e := unq_of_res [92, 117, x1, x2, x3, x4] (validD_low _ h.low)
  have r := h.res hn [] [] 0 0
  rw [code_plain [] n (by simp [half1]; omega) (by simp [half2]; omega)] at r
  exact e.trans r
theorem unq_four_half {n : Nat} {x1 x2 x3 x4 : UInt8} (h : Dig4 n x1 x2 x3 x4) (hh : 55296 ≤ n ∧ n ≤ 57343) : unqP [34, 92, 117, x1, x2, x3, x4, 34] = none := by
  have e := unq_of_res [92, 117, x1, x2, x3, x4] (validD_low _ h.low)
  have r := h.res (by omega) [] [] 0 0
  by_cases h2 : 56320 ≤ n
  · rw [code_second [] n (by simp [half2]; omega)] at r
    exact e.trans r
  · rw [code_first [] n (by simp [half1]; omega) (by simp [half2]; omega)] at r
    refine (e.trans r).trans ?_
    show St.fin _ = none
    unfold St.fin St.whole
    simp
    omega
theorem unq_four_pair {n m : Nat} {x1 x2 x3 x4 y1 y2 y3 y4 : UInt8} (h : Dig4 n x1 x2 x3 x4) (g : Dig4 m y1 y2 y3 y4) (hn : 55296 ≤ n ∧ n ≤ 56319) (hm : 56320 ≤ m ∧ m ≤ 57343) :
    unqP [34, 92, 117, x1, x2, x3, x4, 92, 117, y1, y2, y3, y4, 34] = some (encodeRune (65536 + ((n : Int) - 55296) * 1024 + ((m : Int) - 56320))) := by
  have hv : validD [92, 117, x1, x2, x3, x4, 92, 117, y1, y2, y3, y4] = true := validD_both [92, 117, x1, x2, x3, x4] [92, 117, y1, y2, y3, y4] (validD_low _ h.low) (validD_low _ g.low)
  have e : unqP [34, 92, 117, x1, x2, x3, x4, 92, 117, y1, y2, y3, y4, 34] = Go.Proofs.YtakmkhkbeabgcaaDoor.res St.new [92, 117, x1, x2, x3, x4, 92, 117, y1, y2, y3, y4] := unq_of_res [92, 117, x1, x2, x3, x4, 92, 117, y1, y2, y3, y4] hv
  have r := h.res (by omega) [] [92, 117, y1, y2, y3, y4] 0 0
  rw [code_first [] n (by simp [half1]; omega) (by simp [half2]; omega), Option.bind_some] at r
  have r2 := g.res (by omega) [] [] n n
  rw [code_join [] m n (by simp [half2]; omega) (by omega), Option.bind_some] at r2
  rw [e]
  unfold St.new
  rw [r, r2]
  rfl

end Go.Proofs.YtakmkhkbeabgcaaDoor
