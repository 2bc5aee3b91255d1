/-
  Texts and block texts made of pieces: what lex reads of them.
-/
import Derived.Test.YtakmkhkbeabgcaaDoorLx7
import Derived.Test.YtakmkhkbeabgcaaDoorUnqSpec
namespace Go.Proofs.YtakmkhkbeabgcaaDoor
open Go.RowKit

def pS : Nat → List UInt8
  | 0 => [97]
  | 1 => [92, 110]
  | 2 => [92, 34]
  | 3 => [92, 92]
  | 4 => [92, 117, 48, 48, 52, 49]
  | 5 => [32]
  | 6 => [35]
  | _ => [92, 47]
def pW : Nat → List UInt8
  | 0 => [97]
  | 1 => [10]
  | 2 => [34]
  | 3 => [92]
  | 4 => [65]
  | 5 => [32]
  | 6 => [35]
  | _ => [47]
def pB : Nat → List UInt8
  | 0 => [97]
  | 1 => [92, 110]
  | 2 => [92, 34, 34, 34]
  | 3 => [34]
  | 4 => [92, 117, 48, 48, 52, 49]
  | 5 => [98]
  | 6 => [35]
  | _ => [92, 47]
def pR : Nat → List UInt8
  | 0 => [97]
  | 1 => [92, 110]
  | 2 => [34, 34, 34]
  | 3 => [34]
  | 4 => [92, 117, 48, 48, 52, 49]
  | 5 => [98]
  | 6 => [35]
  | _ => [92, 47]

def tA (ks : List Nat) : List UInt8 := 34 :: ks.flatMap pS
def tW (ks : List Nat) : List UInt8 := ks.flatMap pW
def tB (ks : List Nat) : List UInt8 := 34 :: 34 :: 34 :: 120 :: ks.flatMap fun k => pB k ++ [46]
def tR (ks : List Nat) : List UInt8 := 120 :: ks.flatMap fun k => pR k ++ [46]
theorem tA_snoc (ks : List Nat) (k : Nat) : tA (ks ++ [k]) = tA ks ++ pS k := by simp [tA]
theorem tW_snoc (ks : List Nat) (k : Nat) : tW (ks ++ [k]) = tW ks ++ pW k := by simp [tW]
theorem tB_snoc (ks : List Nat) (k : Nat) : tB (ks ++ [k]) = tB ks ++ pB k ++ [46] := by simp [tB]
theorem tR_snoc (ks : List Nat) (k : Nat) : tR (ks ++ [k]) = tR ks ++ pR k ++ [46] := by simp [tR]
theorem flat_len (f : Nat → List UInt8) (c : Nat) (h : ∀ k, (f k).length ≤ c) (ks : List Nat) : (ks.flatMap f).length ≤ c * ks.length := by
  induction ks with
  | nil => simp
  | cons k ks ih =>
    rw [List.flatMap_cons, List.length_append, List.length_cons, Nat.mul_add]
    have := h k
    omega
theorem pS_len (k : Nat) : (pS k).length ≤ 6 := by unfold pS; split <;> decide
theorem pW_len (k : Nat) : (pW k).length ≤ 6 := by unfold pW; split <;> decide
theorem pB_len (k : Nat) : (pB k).length ≤ 6 := by unfold pB; split <;> decide
theorem pR_len (k : Nat) : (pR k).length ≤ 6 := by unfold pR; split <;> decide
theorem tA_len (ks : List Nat) : (tA ks).length ≤ 6 * ks.length + 1 := by
  have := flat_len pS 6 pS_len ks
  simp only [tA, List.length_cons]; omega
theorem tW_len (ks : List Nat) : (tW ks).length ≤ 6 * ks.length := flat_len pW 6 pW_len ks
theorem tB_len (ks : List Nat) : (tB ks).length ≤ 7 * ks.length + 4 := by
  have := flat_len (fun k => pB k ++ [46]) 7 (fun k => by have := pB_len k; simp only [List.length_append, List.length_cons, List.length_nil]; omega) ks
  simp only [tB, List.length_cons]; omega
theorem tR_len (ks : List Nat) : (tR ks).length ≤ 7 * ks.length + 1 := by
  have := flat_len (fun k => pR k ++ [46]) 7 (fun k => by have := pR_len k; simp only [List.length_append, List.length_cons, List.length_nil]; omega) ks
  simp only [tR, List.length_cons]; omega

/-! ### a text -/
theorem qs_piece (k i : Nat) (t : List UInt8) : lxQs i (pS k ++ t) = lxQs (i + (pS k).length) t := by
  unfold pS
  split <;> simp [lxQs_cons, lxEnd]
theorem qs_pieces (ks : List Nat) (r : List UInt8) : ∀ i, lxQs i (ks.flatMap pS ++ 34 :: r) = i + (ks.flatMap pS).length + 1 := by
  induction ks with
  | nil => intro i; simp [lxQs_cons]
  | cons k ks ih =>
    intro i
    rw [List.flatMap_cons, List.append_assoc, qs_piece, ih, List.length_append]
    omega
theorem uq_piece (k : Nat) (t : List UInt8) : unqS (pS k ++ t) = (unqS t).map (pW k ++ ·) := by
  unfold pS pW
  split
  · simp [unqS_cons]
  · simp [unqS_cons, oneL_cons, ptOf]
  · simp [unqS_cons, oneL_cons, ptOf]
  · simp [unqS_cons, oneL_cons, ptOf]
  · have h : oneL (117 :: 48 :: 48 :: 52 :: 49 :: t) = some ([65], 5) := by
      rw [oneL_cons, if_pos (by decide), hexL_four, if_pos (by decide)]
      rfl
    show unqS (92 :: 117 :: 48 :: 48 :: 52 :: 49 :: t) = _
    rw [unqS_cons, if_pos (by decide), h]
    rfl
  · simp [unqS_cons]
  · simp [unqS_cons]
  · simp [unqS_cons, oneL_cons, ptOf]
theorem uq_pieces (ks : List Nat) : unqS (ks.flatMap pS) = some (tW ks) := by
  induction ks with
  | nil => rfl
  | cons k ks ih =>
    rw [List.flatMap_cons, uq_piece, ih]
    simp [tW]
theorem low_flat (f : Nat → List UInt8) (h : ∀ k, ∀ b ∈ f k, b.toNat < 128) (ks : List Nat) : ∀ b ∈ ks.flatMap f, b.toNat < 128 := by
  intro b hb
  obtain ⟨k, _, hk⟩ := List.mem_flatMap.1 hb
  exact h k b hk
theorem low_valid (l : List UInt8) (h : ∀ b ∈ l, b.toNat < 128) : Lib.validD l = true := by
  rw [Lib.validD_ascii l.length l (by rw [List.take_length]; exact h), List.drop_length]
  rfl
theorem low_S (k : Nat) : ∀ b ∈ pS k, b.toNat < 128 := by unfold pS; split <;> decide
theorem low_R (k : Nat) : ∀ b ∈ pR k ++ [46], (b.toNat < 128 ∧ rawU b = true) ∧ b ≠ 10 ∧ b ≠ 13 := by unfold pR; split <;> decide
theorem inner_34 (F : List UInt8) : innerB (34 :: (F ++ [34])) = F := by
  unfold innerB
  simp
theorem lxWord_cons (b : UInt8) (r : List UInt8) : lxWord (b :: r) = if letU b then lxName (b :: r) else if b == 45 || digU b then lxNum (b :: r) else if Lib.hasPrefix (b :: r) lxFence then lxBlock (b :: r) else if b == 34 then lxQuoted (b :: r) else lxSign (b :: r) := rfl
theorem word_A (ks : List Nat) : lxWord (34 :: (ks.flatMap pS ++ [34, 32, 53])) = some (4, tW ks, (ks.flatMap pS).length + 2) := by
  have hf : Lib.hasPrefix (34 :: (ks.flatMap pS ++ [34, 32, 53])) lxFence = false := by
    cases ks with
    | nil => decide
    | cons k ks =>
      rw [List.flatMap_cons, List.append_assoc]
      unfold pS
      split <;> simp [Lib.hasPrefix, lxFence, List.isPrefixOf]
  rw [lxWord_cons]
  rw [if_neg (by decide), if_neg (by decide), if_neg (by rw [hf]; decide), if_pos (by decide)]
  have hn : lxQn (34 :: (ks.flatMap pS ++ [34, 32, 53])) = (ks.flatMap pS).length + 2 := by
    show lxQs 1 (ks.flatMap pS ++ 34 :: [32, 53]) = _
    rw [qs_pieces]
    omega
  have ht : (34 :: (ks.flatMap pS ++ [34, 32, 53])).take ((ks.flatMap pS).length + 2) = 34 :: (ks.flatMap pS ++ [34]) := by
    rw [show (34 :: (ks.flatMap pS ++ [34, 32, 53]) : List UInt8) = (34 :: (ks.flatMap pS ++ [34])) ++ [32, 53] by simp]
    exact List.take_left' (by simp)
  have hu : unqP (34 :: (ks.flatMap pS ++ [34])) = some (tW ks) := by
    rw [unqP_B]
    unfold unqB
    rw [if_pos ⟨by simp, by simp, by rw [← List.cons_append, List.getLast?_concat], low_valid _ (by
      intro b hb
      rw [List.mem_cons, List.mem_append, List.mem_singleton] at hb
      rcases hb with rfl | hb | rfl
      · decide
      · exact low_flat pS low_S ks b hb
      · decide)⟩, inner_34, uq_pieces]
  unfold lxQuoted
  rw [hn, ht, hu]
theorem lex_A (ks : List Nat) (h : ks.length ≤ 60) : ∃ a, lexP (tA ks ++ [34, 32, 53]) = ([⟨4, tW ks, 0⟩, ⟨2, [53], a⟩], 0, 0) := by
  have hl := tA_len ks
  refine ⟨0 + ((ks.flatMap pS).length + 2) + 1, ?_⟩
  rw [lexP_G _ (by rw [List.length_append]; simp only [List.length_cons, List.length_nil]; omega)]
  show lxG 0 (34 :: (ks.flatMap pS ++ [34, 32, 53])) [] = _
  rw [lxG_some 0 34 _ [] (by decide) (by decide) (word_A ks)]
  have hd : (34 :: (ks.flatMap pS ++ [34, 32, 53])).drop ((ks.flatMap pS).length + 2) = [32, 53] := by
    rw [show (34 :: (ks.flatMap pS ++ [34, 32, 53]) : List UInt8) = (34 :: (ks.flatMap pS ++ [34])) ++ [32, 53] by simp]
    exact List.drop_left' (by simp)
  rw [hd, lxG_blank _ 32 [53] _ (by decide), lxG_some _ 53 [] _ (by decide) (by decide) (show lxWord [53] = some (2, [53], 1) by kernel_rfl)]
  rfl

/-! ### a block text -/
theorem cut_piece (k i f : Nat) (acc t : List UInt8) (h : (pB k).length + 1 ≤ f) : ∃ f', lxCut f i acc (pB k ++ 46 :: t) = lxCut f' (i + ((pB k).length + 1)) (acc ++ (pR k ++ [46])) t ∧ f ≤ f' + ((pB k).length + 1) := by
  unfold pB at *
  unfold pR
  split at h
  · simp only [List.length_cons, List.length_nil] at h
    obtain ⟨f, rfl⟩ : ∃ f', f = f' + 2 := ⟨f - 2, by omega⟩
    refine ⟨f, ?_, by simp only [List.length_cons, List.length_nil]; omega⟩
    simp [lxCut, Lib.hasPrefix, lxFence, lxEsc, List.isPrefixOf]
  · simp only [List.length_cons, List.length_nil] at h
    obtain ⟨f, rfl⟩ : ∃ f', f = f' + 3 := ⟨f - 3, by omega⟩
    refine ⟨f, ?_, by simp only [List.length_cons, List.length_nil]; omega⟩
    simp [lxCut, Lib.hasPrefix, lxFence, lxEsc, List.isPrefixOf]
  · simp only [List.length_cons, List.length_nil] at h
    obtain ⟨f, rfl⟩ : ∃ f', f = f' + 2 := ⟨f - 2, by omega⟩
    refine ⟨f, ?_, by simp only [List.length_cons, List.length_nil]; omega⟩
    simp [lxCut, Lib.hasPrefix, lxFence, lxEsc, List.isPrefixOf]
  · simp only [List.length_cons, List.length_nil] at h
    obtain ⟨f, rfl⟩ : ∃ f', f = f' + 2 := ⟨f - 2, by omega⟩
    refine ⟨f, ?_, by simp only [List.length_cons, List.length_nil]; omega⟩
    simp [lxCut, Lib.hasPrefix, lxFence, lxEsc, List.isPrefixOf]
  · simp only [List.length_cons, List.length_nil] at h
    obtain ⟨f, rfl⟩ : ∃ f', f = f' + 7 := ⟨f - 7, by omega⟩
    refine ⟨f, ?_, by simp only [List.length_cons, List.length_nil]; omega⟩
    simp [lxCut, Lib.hasPrefix, lxFence, lxEsc, List.isPrefixOf]
  · simp only [List.length_cons, List.length_nil] at h
    obtain ⟨f, rfl⟩ : ∃ f', f = f' + 2 := ⟨f - 2, by omega⟩
    refine ⟨f, ?_, by simp only [List.length_cons, List.length_nil]; omega⟩
    simp [lxCut, Lib.hasPrefix, lxFence, lxEsc, List.isPrefixOf]
  · simp only [List.length_cons, List.length_nil] at h
    obtain ⟨f, rfl⟩ : ∃ f', f = f' + 2 := ⟨f - 2, by omega⟩
    refine ⟨f, ?_, by simp only [List.length_cons, List.length_nil]; omega⟩
    simp [lxCut, Lib.hasPrefix, lxFence, lxEsc, List.isPrefixOf]
  · simp only [List.length_cons, List.length_nil] at h
    obtain ⟨f, rfl⟩ : ∃ f', f = f' + 3 := ⟨f - 3, by omega⟩
    refine ⟨f, ?_, by simp only [List.length_cons, List.length_nil]; omega⟩
    simp [lxCut, Lib.hasPrefix, lxFence, lxEsc, List.isPrefixOf]
theorem cut_pieces (ks : List Nat) (r : List UInt8) : ∀ (i f : Nat) (acc : List UInt8), (ks.flatMap fun k => pB k ++ [46]).length < f → lxCut f i acc ((ks.flatMap fun k => pB k ++ [46]) ++ 34 :: 34 :: 34 :: r) = some (acc ++ ks.flatMap fun k => pR k ++ [46], i + (ks.flatMap fun k => pB k ++ [46]).length + 3) := by
  induction ks with
  | nil =>
    intro i f acc hf
    obtain ⟨f, rfl⟩ : ∃ f', f = f' + 1 := ⟨f - 1, by omega⟩
    show lxCut (f + 1) i acc (34 :: 34 :: 34 :: r) = _
    rw [lxCut, if_pos (by simp [Lib.hasPrefix, lxFence, List.isPrefixOf])]
    simp
  | cons k ks ih =>
    intro i f acc hf
    rw [List.flatMap_cons, List.length_append, List.length_append, List.length_singleton] at hf
    obtain ⟨f', h1, h2⟩ := cut_piece k i f acc ((ks.flatMap fun k => pB k ++ [46]) ++ 34 :: 34 :: 34 :: r) (by omega)
    rw [List.flatMap_cons, List.append_assoc, List.append_assoc, List.singleton_append, h1, ih _ _ _ (by omega), List.flatMap_cons, List.length_append, List.length_append, List.length_singleton, List.append_assoc]
    congr 2
    omega
theorem lines_one (l cur : List UInt8) (h : ∀ b ∈ l, b ≠ 10 ∧ b ≠ 13) : linesG cur false l = [cur ++ l] := by
  induction l generalizing cur with
  | nil => simp [linesG]
  | cons b l ih =>
    obtain ⟨h1, h2⟩ := h b (by simp)
    have e1 : (b == 10) = false := by simpa using h1
    have e2 : (b == 13) = false := by simpa using h2
    rw [linesG, e1, e2]
    show linesG (cur ++ [b]) false l = _
    rw [ih _ (fun c hc => h c (by simp [hc]))]
    simp
theorem block_one (l : List UInt8) (h : ∀ b ∈ l, b ≠ 10 ∧ b ≠ 13) (hb : blankB l = false) : blockB l = l := by
  unfold blockB linesB
  rw [lines_one l [] h]
  simp [cutAll, trimLL, hb, joinB]
theorem tR_all (ks : List Nat) : ∀ b ∈ tR ks, (b.toNat < 128 ∧ rawU b = true) ∧ b ≠ 10 ∧ b ≠ 13 := by
  intro b hb
  unfold tR at hb
  rw [List.mem_cons] at hb
  rcases hb with rfl | hb
  · decide
  · obtain ⟨k, _, hk⟩ := List.mem_flatMap.1 hb
    exact low_R k b hk
theorem word_B (ks : List Nat) : lxWord (tB ks ++ [34, 34, 34, 123]) = some (4, tR ks, (tB ks).length + 3) := by
  have e : tB ks ++ [34, 34, 34, 123] = 34 :: ((tB ks).tail ++ [34, 34, 34, 123]) := rfl
  rw [e, lxWord_cons, ← e]
  rw [if_neg (by decide), if_neg (by decide), if_pos (by simp [tB, Lib.hasPrefix, lxFence, List.isPrefixOf])]
  have hc : lxCut (tB ks ++ [34, 34, 34, 123]).length 3 [] ((tB ks ++ [34, 34, 34, 123]).drop 3) = some (tR ks, (tB ks).length + 3) := by
    have hl : (tB ks ++ [34, 34, 34, 123]).length = (ks.flatMap fun k => pB k ++ [46]).length + 7 + 1 := by simp [tB]
    rw [hl]
    show lxCut (_ + 7 + 1) 3 [] (120 :: ((ks.flatMap fun k => pB k ++ [46]) ++ 34 :: 34 :: 34 :: [123])) = _
    rw [lxCut, if_neg (by simp [Lib.hasPrefix, lxFence, List.isPrefixOf]), if_neg (by simp [Lib.hasPrefix, lxEsc, List.isPrefixOf]), cut_pieces _ _ _ _ _ (by omega)]
    simp [tR, tB]
    omega
  have hr : lxRaw (tR ks) = true := by
    unfold lxRaw
    rw [low_valid _ (fun b hb => (tR_all ks b hb).1.1), Bool.and_true, List.all_eq_true]
    exact fun b hb => (tR_all ks b hb).1.2
  have hb : blankB (tR ks) = false := by
    unfold blankB indent tR
    rw [List.takeWhile_cons, if_neg (by decide)]
    simp
  unfold lxBlock
  rw [hc]
  show (if lxRaw (tR ks) = true then some (4, blockB (tR ks), _) else none) = _
  rw [if_pos hr, block_one _ (fun b hb => (tR_all ks b hb).2) hb]
theorem lex_B (ks : List Nat) (h : ks.length ≤ 60) : ∃ a, lexP (tB ks ++ [34, 34, 34, 123]) = ([⟨4, tR ks, 0⟩, ⟨5, [123], a⟩], 0, 0) := by
  have hl := tB_len ks
  refine ⟨0 + ((tB ks).length + 3), ?_⟩
  rw [lexP_G _ (by rw [List.length_append]; simp only [List.length_cons, List.length_nil]; omega)]
  have e : tB ks ++ [34, 34, 34, 123] = 34 :: ((tB ks).tail ++ [34, 34, 34, 123]) := rfl
  have hw := word_B ks
  rw [e] at hw ⊢
  rw [lxG_some 0 34 _ [] (by decide) (by decide) hw, ← e]
  have hd : (tB ks ++ [34, 34, 34, 123]).drop ((tB ks).length + 3) = [123] := by
    rw [show tB ks ++ [34, 34, 34, 123] = (tB ks ++ [34, 34, 34]) ++ [123] by simp]
    exact List.drop_left' (by simp)
  rw [hd, lxG_some _ 123 [] _ (by decide) (by decide) (show lxWord [123] = some (5, [123], 1) by kernel_rfl)]
  rfl

end Go.Proofs.YtakmkhkbeabgcaaDoor
