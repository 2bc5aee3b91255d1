/-
  JreadDeep: what is read of lists within lists; of a number and blanks.
-/
import Derived.Test.YtbcenaljaoejkaaDoorJa
namespace Go.Proofs.YtbcenaljaoejkaaDoor
open Go.RowKit

def rep (k : Nat) (b : UInt8) : List UInt8 := List.replicate k b
theorem rep_succ (k : Nat) (b : UInt8) : rep (k + 1) b = b :: rep k b := rfl
theorem rep_len (k : Nat) (b : UInt8) : (rep k b).length = k := by simp [rep]
theorem rep_snoc (k : Nat) (b : UInt8) : rep k b ++ [b] = rep (k + 1) b := by
  unfold rep
  rw [List.replicate_succ']

theorem deep_up (d : Bool) (a b : Nat) (h : a ≤ b) : ((d || deepB a) || deepB b) = (d || deepB b) := by
  unfold deepB
  cases d
  · by_cases h1 : 12 < a
    · have h2 : 12 < b := by omega
      simp [h1, h2]
    · simp [h1]
  · rfl

/-- k lists within one another, then what stands behind. -/
theorem pv_nest : ∀ (k f dep : Nat) (d t : Bool) (r : List UInt8), k + 1 ≤ f → ∃ x, pv f dep d t (rep (k + 1) 91 ++ (rep (k + 1) 93 ++ r)) = some (x, r, d || deepB (dep + k), t)
  | 0, f, dep, d, t, r, hf => by
    obtain ⟨g, rfl⟩ : ∃ g, f = g + 1 := ⟨f - 1, by omega⟩
    exact ⟨.mk 7 e0 [] [], by
      show pv (g + 1) dep d t (91 :: 93 :: r) = _
      rw [pv, show sk (91 :: 93 :: r) = 91 :: 93 :: r from rfl, show hd (91 :: 93 :: r) = 91 from rfl, if_pos rfl, listP, show sk (List.drop 1 (91 :: 93 :: r)) = 93 :: r from rfl, show hd (93 :: r) = 93 from rfl, if_pos rfl]
      rfl⟩
  | k + 1, f, dep, d, t, r, hf => by
    obtain ⟨g, rfl⟩ : ∃ g, f = g + 1 := ⟨f - 1, by omega⟩
    obtain ⟨g', hg⟩ : ∃ g', g = g' + 1 := ⟨g - 1, by omega⟩
    obtain ⟨x, hx⟩ := pv_nest k g (dep + 1) (d || deepB dep) t (93 :: r) (by omega)
    have e1 : rep (k + 2) 91 ++ (rep (k + 2) 93 ++ r) = 91 :: (rep (k + 1) 91 ++ (rep (k + 1) 93 ++ 93 :: r)) := by
      rw [rep_succ (k + 1) 91, ← rep_snoc (k + 1) 93]
      simp
    have e2 : rep (k + 1) 91 ++ (rep (k + 1) 93 ++ 93 :: r) = 91 :: (rep k 91 ++ (rep (k + 1) 93 ++ 93 :: r)) := rfl
    refine ⟨.mk 7 e0 [] [x], ?_⟩
    rw [e1, pv, show ∀ l, sk (91 :: l) = 91 :: l from fun _ => rfl, show ∀ l, hd (91 :: l) = 91 from fun _ => rfl, if_pos rfl, show ∀ l : List UInt8, List.drop 1 (91 :: l) = l from fun _ => rfl, listP, if_neg (by rw [e2]; show ¬ (91 : UInt8) = 93; decide), hg, listGo, ← hg, hx]
    show (if hd (sk (93 :: r)) = 93 then _ else _) = _
    rw [show sk (93 :: r) = 93 :: r from rfl, show hd (93 :: r) = 93 from rfl, if_pos rfl, deep_up d dep (dep + 1 + k) (by omega), show dep + 1 + k = dep + (k + 1) by omega]
    rfl

def twoA : List UInt8 := [123, 34, 97, 34, 58, 49, 44, 34, 97, 34, 58, 50, 125]
theorem pv_digit (f dep : Nat) (d t : Bool) (b c : UInt8) (r : List UInt8) (hb : isNS b) (hc : ¬ isNS c) (h1 : numOk [b] = true) (h2 : numWhole [b] = true) : pv (f + 1) dep d t (b :: c :: r) = some (.mk 3 (ofL [b]) [] [], c :: r, d || deepB dep, t) := by
  have := pv_num f dep d t (b := b) (s := []) (r := c :: r) (fun x hx => by simp at hx; subst hx; exact hb) (fun x hx => by simp at hx; subst hx; exact hc)
  rw [h1, if_pos rfl, h2, if_pos rfl] at this
  exact this

/-- An object with a name twice. -/
theorem pv_twice (f dep : Nat) (d t : Bool) (r : List UInt8) (hf : 4 ≤ f) : ∃ x, pv f dep d t (twoA ++ r) = some (x, r, d || deepB (dep + 1), true) := by
  obtain ⟨g, rfl⟩ : ∃ g, f = g + 4 := ⟨f - 4, by omega⟩
  refine ⟨.mk 8 e0 [ofL [97], ofL [97]] [.mk 3 (ofL [49]) [] [], .mk 3 (ofL [50]) [] []], ?_⟩
  have p1 : ∀ d t l, pv (g + 3) (dep + 1) d t (49 :: 44 :: l) = some (.mk 3 (ofL [49]) [] [], 44 :: l, d || deepB (dep + 1), t) := fun d t l => pv_digit (g + 2) (dep + 1) d t 49 44 l (by unfold isNS; decide) (by unfold isNS; decide) (by decide) (by decide)
  have p2 : ∀ d t l, pv (g + 3) (dep + 1) d t (50 :: 125 :: l) = some (.mk 3 (ofL [50]) [] [], 125 :: l, d || deepB (dep + 1), t) := fun d t l => pv_digit (g + 2) (dep + 1) d t 50 125 l (by unfold isNS; decide) (by unfold isNS; decide) (by decide) (by decide)
  show pv (g + 3 + 1) dep d t (123 :: 34 :: 97 :: 34 :: 58 :: 49 :: 44 :: 34 :: 97 :: 34 :: 58 :: 50 :: 125 :: r) = _
  rw [pv, show ∀ l, sk (123 :: l) = 123 :: l from fun _ => rfl, show ∀ l, hd (123 :: l) = 123 from fun _ => rfl, if_neg (by decide), if_pos rfl, show ∀ l : List UInt8, List.drop 1 (123 :: l) = l from fun _ => rfl, objP, show ∀ l, sk (34 :: l) = 34 :: l from fun _ => rfl, show ∀ l, hd (34 :: l) = 34 from fun _ => rfl, if_neg (by decide),
    objGo, show ∀ l, sk (34 :: l) = 34 :: l from fun _ => rfl, show ∀ l, hd (34 :: l) = 34 from fun _ => rfl, if_pos rfl, qt_a]
  show (if hd (sk (58 :: _)) = 58 then _ else _) = _
  rw [show ∀ l, sk (58 :: l) = 58 :: l from fun _ => rfl, show ∀ l, hd (58 :: l) = 58 from fun _ => rfl, if_pos rfl, show ∀ l : List UInt8, List.drop 1 (58 :: l) = l from fun _ => rfl, p1]
  show (if hd (sk (44 :: _)) = 125 then _ else if hd (sk (44 :: _)) = 44 then _ else _) = _
  rw [show ∀ l, sk (44 :: l) = 44 :: l from fun _ => rfl, show ∀ l, hd (44 :: l) = 44 from fun _ => rfl, if_neg (by decide), if_pos rfl, show ∀ l : List UInt8, List.drop 1 (44 :: l) = l from fun _ => rfl,
    objGo, show ∀ l, sk (34 :: l) = 34 :: l from fun _ => rfl, show ∀ l, hd (34 :: l) = 34 from fun _ => rfl, if_pos rfl, qt_a]
  show (if hd (sk (58 :: _)) = 58 then _ else _) = _
  rw [show ∀ l, sk (58 :: l) = 58 :: l from fun _ => rfl, show ∀ l, hd (58 :: l) = 58 from fun _ => rfl, if_pos rfl, show ∀ l : List UInt8, List.drop 1 (58 :: l) = l from fun _ => rfl, p2]
  show (if hd (sk (125 :: _)) = 125 then _ else _) = _
  rw [show ∀ l, sk (125 :: l) = 125 :: l from fun _ => rfl, show ∀ l, hd (125 :: l) = 125 from fun _ => rfl, if_pos rfl, show ∀ l : List UInt8, List.drop 1 (125 :: l) = l from fun _ => rfl]
  congr 4
  · rw [deep_up d dep (dep + 1) (by omega), Bool.or_assoc, Bool.or_self]
  · cases t <;> rfl

theorem pv_nest2 : ∀ (k f dep : Nat) (d t : Bool) (r : List UInt8), k + 4 ≤ f → ∃ x, pv f dep d t (rep k 91 ++ (twoA ++ (rep k 93 ++ r))) = some (x, r, d || deepB (dep + k + 1), true)
  | 0, f, dep, d, t, r, hf => pv_twice f dep d t r (by omega)
  | k + 1, f, dep, d, t, r, hf => by
    obtain ⟨g, rfl⟩ : ∃ g, f = g + 1 := ⟨f - 1, by omega⟩
    obtain ⟨g', hg⟩ : ∃ g', g = g' + 1 := ⟨g - 1, by omega⟩
    obtain ⟨x, hx⟩ := pv_nest2 k g (dep + 1) (d || deepB dep) t (93 :: r) (by omega)
    have e1 : rep (k + 1) 91 ++ (twoA ++ (rep (k + 1) 93 ++ r)) = 91 :: (rep k 91 ++ (twoA ++ (rep k 93 ++ 93 :: r))) := by
      rw [rep_succ k 91, ← rep_snoc k 93]
      simp
    have e2 : hd (sk (rep k 91 ++ (twoA ++ (rep k 93 ++ 93 :: r)))) ≠ 93 := by
      cases k with
      | zero => show ¬ (123 : UInt8) = 93; decide
      | succ k => show ¬ (91 : UInt8) = 93; decide
    refine ⟨.mk 7 e0 [] [x], ?_⟩
    rw [e1, pv, show ∀ l, sk (91 :: l) = 91 :: l from fun _ => rfl, show ∀ l, hd (91 :: l) = 91 from fun _ => rfl, if_pos rfl, show ∀ l : List UInt8, List.drop 1 (91 :: l) = l from fun _ => rfl, listP, if_neg e2, hg, listGo, ← hg, hx]
    show (if hd (sk (93 :: r)) = 93 then _ else _) = _
    rw [show sk (93 :: r) = 93 :: r from rfl, show hd (93 :: r) = 93 from rfl, if_pos rfl, deep_up d dep (dep + 1 + k + 1) (by omega), show dep + 1 + k + 1 = dep + (k + 1) + 1 by omega]
    rfl

/-- Lists within lists: as deep as may be, and deeper. -/
theorem read_nest (k : Nat) (hk : k < 20) : ∃ o, readP (rep (k + 1) 91 ++ rep (k + 1) 93) = (o, if k < 12 then 0 else 4) ∧ (o = none ↔ ¬ k < 12) := by
  obtain ⟨x, hx⟩ := pv_nest k ((rep (k + 1) 91 ++ rep (k + 1) 93).length + 1) 1 false false [] (by rw [List.length_append, rep_len]; omega)
  rw [List.append_nil] at hx
  have hd : deepB (1 + k) = decide (¬ k < 12) := by unfold deepB; congr 1; exact propext ⟨fun h => by omega, fun h => by omega⟩
  unfold readP
  rw [if_neg (by rw [List.length_append, rep_len, rep_len]; omega), hx]
  by_cases h12 : k < 12
  · refine ⟨some x, ?_, by simp [h12]⟩
    rw [hd, if_pos h12]
    simp [h12, sk_nil]
  · refine ⟨none, ?_, by simp [h12]⟩
    rw [hd, if_neg h12]
    simp [h12, sk_nil]

theorem read_nest2 (k : Nat) (hk : k < 20) : readP (rep k 91 ++ (twoA ++ rep k 93)) = (none, if k < 11 then 5 else 4) := by
  have hl : (rep k 91 ++ (twoA ++ rep k 93)).length = 2 * k + 13 := by
    rw [List.length_append, List.length_append, rep_len, rep_len]
    show k + (13 + k) = _
    omega
  obtain ⟨x, hx⟩ := pv_nest2 k ((rep k 91 ++ (twoA ++ rep k 93)).length + 1) 1 false false [] (by rw [hl]; omega)
  rw [List.append_nil] at hx
  have hd : deepB (1 + k + 1) = decide (¬ k < 11) := by unfold deepB; congr 1; exact propext ⟨fun h => by omega, fun h => by omega⟩
  unfold readP
  rw [if_neg (by rw [hl]; omega), hx]
  by_cases h12 : k < 11
  · rw [hd, if_pos h12]
    simp [h12, sk_nil]
  · rw [hd, if_neg h12]
    simp [h12, sk_nil]

theorem sk_blanks (n : Nat) : sk (rep n 32) = [] := by
  induction n with
  | zero => rfl
  | succ n ih => rw [rep_succ, sk_cons, if_pos (by decide)]; exact ih
/-- A number, and blanks. -/
theorem read_blanks (n : Nat) (hn : 1 ≤ n) : readP (53 :: rep n 32) = if n < 4000 then (some (.mk 3 (ofL [53]) [] []), 0) else (none, 3) := by
  have hl : (53 :: rep n 32).length = n + 1 := by rw [List.length_cons, rep_len]
  unfold readP
  rw [hl]
  by_cases h : n < 4000
  · obtain ⟨m, rfl⟩ : ∃ m, n = m + 1 := ⟨n - 1, by omega⟩
    rw [if_neg (by omega), if_pos h, rep_succ, pv_digit (m + 2) 1 false false 53 32 (rep m 32) (by unfold isNS; decide) (by unfold isNS; decide) (by decide) (by decide)]
    show (if 0 < (sk (32 :: rep m 32)).length then _ else _) = _
    rw [← rep_succ, sk_blanks]
    rfl
  · rw [if_pos (by omega), if_neg h]

end Go.Proofs.YtbcenaljaoejkaaDoor
