/-
  lex.All where its tokens are known; the document's example.
-/
import Derived.Test.YtibkncgfdhflgaaGreatDoorLx6
import Derived.Test.YtibkncgfdhflgaaGreatDoorPlace
namespace Go.Proofs.YtibkncgfdhflgaaGreatDoor
open Go.RowKit

theorem lrem_nat (v n : Int) (hn : 0 < n) : ∃ u : Nat, v % n = (u : Int) ∧ (u : Int) < n := ⟨(v % n).toNat, by have := Int.emod_nonneg v (show n ≠ 0 by omega); omega, by have := Int.emod_lt_of_pos v hn; have := Int.emod_nonneg v (show n ≠ 0 by omega); omega⟩

/-! ### enough fuel is enough -/
theorem lxGo_fuel : ∀ (n f g a : Nat) (l : List UInt8) (acc : List Tk), l.length ≤ n → l.length ≤ f → l.length ≤ g → lxGo f a l acc = lxGo g a l acc
  | _, _, _, _, [], _, _, _, _ => by rw [lxGo_nil, lxGo_nil]
  | 0, _, _, _, _ :: _, _, h, _, _ => by simp at h
  | n + 1, f, g, a, b :: r, acc, h, hf, hg => by
    simp only [List.length_cons] at h hf hg
    obtain ⟨f, rfl⟩ : ∃ f', f = f' + 1 := ⟨f - 1, by omega⟩
    obtain ⟨g, rfl⟩ : ∃ g', g = g' + 1 := ⟨g - 1, by omega⟩
    cases hb : lxBlank b with
    | true =>
      rw [lxGo_blank _ _ _ _ _ hb, lxGo_blank _ _ _ _ _ hb]
      exact lxGo_fuel n f g _ r _ (by omega) (by omega) (by omega)
    | false =>
      cases h35 : (b == 35) with
      | true =>
        rw [lxGo_rem _ _ _ _ _ hb h35, lxGo_rem _ _ _ _ _ hb h35]
        have hp := lxRem_pos (r := r) h35
        have hd : ((b :: r).drop (lxRem (b :: r))).length ≤ r.length := by rw [List.length_drop, List.length_cons]; omega
        exact lxGo_fuel n f g _ _ _ (by omega) (by omega) (by omega)
      | false =>
        cases hw : lxWord (b :: r) with
        | none => rw [lxGo_none _ _ _ _ _ hb h35 hw, lxGo_none _ _ _ _ _ hb h35 hw]
        | some o =>
          obtain ⟨k, s, m⟩ := o
          rw [lxGo_some _ _ _ _ _ hb h35 hw, lxGo_some _ _ _ _ _ hb h35 hw]
          have hp := lxWord_le hw
          have hd : ((b :: r).drop m).length ≤ r.length := by rw [List.length_drop, List.length_cons]; omega
          exact lxGo_fuel n f g _ _ _ (by omega) (by omega) (by omega)
def lxG (a : Nat) (l : List UInt8) (acc : List Tk) : List Tk × Nat × Nat := lxGo l.length a l acc
theorem lxG_of (f a : Nat) (l : List UInt8) (acc : List Tk) (h : l.length ≤ f) : lxGo f a l acc = lxG a l acc := lxGo_fuel _ _ _ _ _ _ (Nat.le_refl _) h (Nat.le_refl _)
theorem lxG_nil (a : Nat) (acc : List Tk) : lxG a [] acc = (acc, 0, 0) := rfl
theorem lxG_blank (a : Nat) (b : UInt8) (r : List UInt8) (acc : List Tk) (h : lxBlank b = true) : lxG a (b :: r) acc = lxG (a + 1) r acc := by
  unfold lxG
  rw [List.length_cons, lxGo_blank _ _ _ _ _ h]
theorem lxG_rem (a : Nat) (r : List UInt8) (acc : List Tk) : lxG a (35 :: r) acc = lxG (a + lxRem (35 :: r)) ((35 :: r).drop (lxRem (35 :: r))) acc := by
  have hp := lxRem_pos (b := 35) (r := r) rfl
  show lxGo (r.length + 1) a (35 :: r) acc = _
  rw [lxGo_rem _ _ _ _ _ (by decide) rfl]
  exact lxG_of _ _ _ _ (by rw [List.length_drop, List.length_cons]; omega)
theorem lxG_none (a : Nat) (b : UInt8) (r : List UInt8) (acc : List Tk) (h : lxBlank b = false) (h2 : (b == 35) = false) (hw : lxWord (b :: r) = none) : lxG a (b :: r) acc = ([], a, 2) := lxGo_none _ _ _ _ _ h h2 hw
theorem lxG_some (a : Nat) (b : UInt8) (r : List UInt8) (acc : List Tk) (h : lxBlank b = false) (h2 : (b == 35) = false) {k : Nat} {s : List UInt8} {n : Nat} (hw : lxWord (b :: r) = some (k, s, n)) : lxG a (b :: r) acc = lxG (a + n) ((b :: r).drop n) (acc ++ [⟨k, s, a⟩]) := by
  show lxGo (r.length + 1) a (b :: r) acc = _
  rw [lxGo_some _ _ _ _ _ h h2 hw]
  have := lxWord_le hw
  exact lxG_of _ _ _ _ (by rw [List.length_drop, List.length_cons]; omega)
theorem lexP_G (l : List UInt8) (h : l.length ≤ 8000) : lexP l = lxG 0 l [] := by
  unfold lexP
  rw [if_neg (by omega)]
  exact lxG_of _ _ _ _ (by omega)

/-- A name of one letter, and something behind it that goes on with no name. -/
theorem word_a (b : UInt8) (r : List UInt8) (hb : letU b = true) (hr : ∀ c, r.head? = some c → nmU c = false) : lxWord (b :: r) = some (1, [b], 1) := by
  have ht : (b :: r).takeWhile nmU = [b] := by
    rw [List.takeWhile_cons, if_pos (show nmU b = true by unfold nmU; rw [hb]; rfl)]
    cases r with
    | nil => rfl
    | cons c r => rw [List.takeWhile_cons, if_neg (by rw [hr c rfl]; decide)]
  have hn : nameB [b] = true := by
    have : nameOk 0 (b.toNat : Int) = true := by unfold nameOk; rw [show letB (b.toNat : Int) = true from hb]; rfl
    simp [nameB, nameGo, this]
  show (if letU b = true then lxName (b :: r) else _) = _
  rw [if_pos hb]
  unfold lxName
  rw [ht, if_pos hn]
  rfl

/-! ### what All answers where its tokens are known -/
theorem lex_err {s : ByteArray} {a c : Nat} (h : lexP s.data.toList = ([], a, c)) (w : World) (hs : s.size ≤ 1000000000) : Calls Tryz.prog 24 #[.string s] w fun e w' => Below w.heap.size w w' ∧ ∃ ao cap, e = .returned (.tuple #[.slice ao 0 cap, .int .i64 a, .int .i64 c]) := by
  refine (lexAll_any s w hs).mono ?_
  rintro e w1 ⟨v, he, hown, hb⟩
  rw [h] at he hown
  refine ⟨hb, ?_⟩
  rcases hown.2 with ⟨hv, _⟩ | ⟨g, cap, cur, hv, _⟩
  · exact ⟨none, 0, by rw [he, hv]⟩
  · exact ⟨_, cap, by rw [he, hv]; rfl⟩
theorem lex_toks {s : ByteArray} {ts : List Tk} (h : lexP s.data.toList = (ts, 0, 0)) (hne : 0 < ts.length) (w : World) (hs : s.size ≤ 1000000000) : Calls Tryz.prog 24 #[.string s] w fun e w' => Below w.heap.size w w' ∧ ∃ g cap, e = .returned (.tuple #[.slice (some ⟨g, 0, none⟩) ts.length cap, .int .i64 0, .int .i64 0]) ∧ ts.length ≤ cap ∧ w.heap.size ≤ g ∧ g < w'.heap.size ∧ ∀ j u, (tkCells ts)[j]? = some u → w'.cell? ⟨g, j, none⟩ = some u := by
  refine (lexAll_any s w hs).mono ?_
  rintro e w1 ⟨v, he, hown, hb⟩
  rw [h] at he hown
  refine ⟨hb, ?_⟩
  rcases hown.2 with ⟨_, h0⟩ | ⟨g, cap, cur, hv, hB, hg, hc, _⟩
  · exact absurd h0 (show ¬ ts.length = 0 by omega)
  · refine ⟨g, cap, by rw [he, hv]; rfl, hc, hB, (Array.getElem?_eq_some_iff.1 hg).1, fun j u hj => ?_⟩
    have := hown.cells (g := g) (by rw [hv]; rfl) j u hj
    have e : (⟨g, 0, none⟩ : Addr).add j = ⟨g, j, none⟩ := by cases j <;> simp [Addr.add]
    rwa [e] at this

theorem awake_lex : lexP (⟨#[97, 40, 98, 58, 45, 49, 41]⟩ : ByteArray).data.toList = ([⟨1, [97], 0⟩, ⟨5, [40], 1⟩, ⟨1, [98], 2⟩, ⟨5, [58], 3⟩, ⟨2, [45, 49], 4⟩, ⟨5, [41], 6⟩], 0, 0) := by kernel_rfl

end Go.Proofs.YtibkncgfdhflgaaGreatDoor
