/-
  SdlSaid: its texts.
-/
import Derived.Test.YtkahnlgedacppaaGreatDoorMSw0
import Derived.Test.YtkahnlgedacppaaGreatDoorMDm
import Derived.Test.YtkahnlgedacppaaGreatDoorMSeg
namespace Go.Proofs.YtkahnlgedacppaaGreatDoor
open Go.RowKit

def saW : Nat → List UInt8
  | 0 => [34, 119, 111, 114, 100, 115, 34, 32]
  | 1 => [34, 34, 34, 109, 111, 114, 101, 10, 32, 119, 111, 114, 100, 115, 34, 34, 34]
  | 2 => []
  | _ => [34, 34]
def saP (v : Nat) : List UInt8 := saW v ++ [116, 121, 112, 101, 32, 81, 117, 101, 114, 121, 123] ++ saW v ++ [97, 40] ++ saW v ++ [98, 58, 73, 110, 116, 61, 53, 41, 58, 69, 64, 99, 111, 115, 116, 40, 110, 58]
def saQ (v : Nat) : List UInt8 := [41, 125] ++ saW v ++ [101, 110, 117, 109, 32, 69, 123] ++ saW v ++ [88, 32] ++ saW v ++ [89, 125]
def tpP (v : Nat) : List Tk := (segT 300 0 (saP v)).getD []
def tpQ (v : Nat) : List Tk := (segT 300 0 (saQ v)).getD []
def saD : JV := ⟨3, ⟨#[53]⟩, [], []⟩
def saS (D : List UInt8) : SchT := ⟨queryN, [], [⟨2, queryN, [], [⟨[97], [⟨[98], ([73, 110, 116], []), saD⟩], ([69], []), costV D⟩], []⟩, ⟨5, [69], [[88], [89]], [], []⟩]⟩
theorem sa_p0 : segT 300 0 (saP 0) = some (tpP 0) := by kernel_rfl
theorem sa_p1 : segT 300 0 (saP 1) = some (tpP 1) := by kernel_rfl
theorem sa_p2 : segT 300 0 (saP 2) = some (tpP 2) := by kernel_rfl
theorem sa_p3 : segT 300 0 (saP 3) = some (tpP 3) := by kernel_rfl
theorem sa_q0 : segT 300 0 (saQ 0) = some (tpQ 0) := by kernel_rfl
theorem sa_q1 : segT 300 0 (saQ 1) = some (tpQ 1) := by kernel_rfl
theorem sa_q2 : segT 300 0 (saQ 2) = some (tpQ 2) := by kernel_rfl
theorem sa_q3 : segT 300 0 (saQ 3) = some (tpQ 3) := by kernel_rfl
theorem sa_m0 (D : List UInt8) (p q z : Nat) : sdlM z ⟨tpP 0 ++ ⟨2, D, p⟩ :: (tpQ 0).map (shT q), 0, 0⟩ = (saS D, ⟨[], 0, 0⟩) := by kernel_rfl
theorem sa_t0 (q : Nat) : tokSmall (tpP 0) = true ∧ tokSmall ((tpQ 0).map (shT q)) = true ∧ intsOk (tpP 0) = true ∧ intsOk ((tpQ 0).map (shT q)) = true := ⟨by kernel_rfl, by kernel_rfl, by kernel_rfl, by kernel_rfl⟩
theorem sa_l0 : (saP 0).length ≤ 90 ∧ (saQ 0).length ≤ 70 := ⟨by decide, by decide⟩
theorem sa_m1 (D : List UInt8) (p q z : Nat) : sdlM z ⟨tpP 1 ++ ⟨2, D, p⟩ :: (tpQ 1).map (shT q), 0, 0⟩ = (saS D, ⟨[], 0, 0⟩) := by kernel_rfl
theorem sa_t1 (q : Nat) : tokSmall (tpP 1) = true ∧ tokSmall ((tpQ 1).map (shT q)) = true ∧ intsOk (tpP 1) = true ∧ intsOk ((tpQ 1).map (shT q)) = true := ⟨by kernel_rfl, by kernel_rfl, by kernel_rfl, by kernel_rfl⟩
theorem sa_l1 : (saP 1).length ≤ 90 ∧ (saQ 1).length ≤ 70 := ⟨by decide, by decide⟩
theorem sa_m2 (D : List UInt8) (p q z : Nat) : sdlM z ⟨tpP 2 ++ ⟨2, D, p⟩ :: (tpQ 2).map (shT q), 0, 0⟩ = (saS D, ⟨[], 0, 0⟩) := by kernel_rfl
theorem sa_t2 (q : Nat) : tokSmall (tpP 2) = true ∧ tokSmall ((tpQ 2).map (shT q)) = true ∧ intsOk (tpP 2) = true ∧ intsOk ((tpQ 2).map (shT q)) = true := ⟨by kernel_rfl, by kernel_rfl, by kernel_rfl, by kernel_rfl⟩
theorem sa_l2 : (saP 2).length ≤ 90 ∧ (saQ 2).length ≤ 70 := ⟨by decide, by decide⟩
theorem sa_m3 (D : List UInt8) (p q z : Nat) : sdlM z ⟨tpP 3 ++ ⟨2, D, p⟩ :: (tpQ 3).map (shT q), 0, 0⟩ = (saS D, ⟨[], 0, 0⟩) := by kernel_rfl
theorem sa_t3 (q : Nat) : tokSmall (tpP 3) = true ∧ tokSmall ((tpQ 3).map (shT q)) = true ∧ intsOk (tpP 3) = true ∧ intsOk ((tpQ 3).map (shT q)) = true := ⟨by kernel_rfl, by kernel_rfl, by kernel_rfl, by kernel_rfl⟩
theorem sa_l3 : (saP 3).length ≤ 90 ∧ (saQ 3).length ≤ 70 := ⟨by decide, by decide⟩

/-! ### digits and what they cost -/
theorem uint_app : ∀ (l r : List UInt8) (acc a : Nat), Lib.parseUint10 acc l = .ok a → Lib.parseUint10 acc (l ++ r) = Lib.parseUint10 a r
  | [], r, acc, a, h => by
    injection h with h
    rw [List.nil_append, h]
  | c :: l, r, acc, a, h => by
    rw [List.cons_append, show Lib.parseUint10 acc (c :: (l ++ r)) = (if 48 ≤ c.toNat ∧ c.toNat ≤ 57 then if 1844674407370955162 ≤ acc then .range else if 18446744073709551616 ≤ acc * 10 + (c.toNat - 48) then .range else Lib.parseUint10 (acc * 10 + (c.toNat - 48)) (l ++ r) else .syntax) from rfl]
    unfold Lib.parseUint10 at h
    by_cases h1 : 48 ≤ c.toNat ∧ c.toNat ≤ 57
    · rw [if_pos h1] at h ⊢
      by_cases h2 : 1844674407370955162 ≤ acc
      · rw [if_pos h2] at h; cases h
      · rw [if_neg h2] at h ⊢
        by_cases h3 : 18446744073709551616 ≤ acc * 10 + (c.toNat - 48)
        · rw [if_pos h3] at h; cases h
        · rw [if_neg h3] at h ⊢
          exact uint_app l r _ a h
    · rw [if_neg h1] at h; cases h
theorem dch_nat (d : Nat) (h : d < 10) : (dch d).toNat = 48 + d := by
  match d, h with
  | 0, _ | 1, _ | 2, _ | 3, _ | 4, _ | 5, _ | 6, _ | 7, _ | 8, _ | 9, _ => rfl
theorem uint_one (acc d : Nat) (hd : d < 10) (ha : acc < 1000000000000) : Lib.parseUint10 acc [dch d] = .ok (acc * 10 + d) := by
  unfold Lib.parseUint10
  rw [dch_nat d hd, if_pos (by omega), if_neg (by omega), if_neg (by omega)]
  unfold Lib.parseUint10
  congr 1
  omega
theorem uint_dgs : ∀ (f v : Nat), v < 10 ^ f → 1 ≤ f → v < 10000000000 → Lib.parseUint10 0 (dgs f v) = .ok v
  | 0, _, _, h, _ => absurd h (by omega)
  | f + 1, v, h, _, hv => by
    unfold dgs
    by_cases h10 : v < 10
    · rw [if_pos h10, uint_one 0 v h10 (by omega)]
      congr 1
      omega
    · rw [if_neg h10]
      have hlt : v / 10 < 10 ^ f := by
        rw [Nat.pow_succ] at h
        omega
      have hf1 : 1 ≤ f := by
        rcases Nat.eq_zero_or_pos f with h0 | h0
        · subst h0; simp at hlt; omega
        · exact h0
      rw [uint_app _ _ _ _ (uint_dgs f (v / 10) hlt hf1 (by omega)), uint_one _ _ (Nat.mod_lt _ (by omega)) (by omega)]
      congr 1
      omega
theorem dig_not {b : UInt8} (h : digU b = true) : b.toNat ≠ 43 ∧ b.toNat ≠ 45 := by
  unfold digU digB at h
  simp at h
  omega
theorem atoi_dgs {f v : Nat} (h : v < 10 ^ f) (h1 : 1 ≤ f) (hv : v < 10000000000) : Lib.atoiAll (dgs f v) = .ok (v : Int) := by
  have hn := dgs_nat f v h h1
  have hu := uint_dgs f v h h1 hv
  generalize dgs f v = l at *
  cases l with
  | nil => exact absurd rfl hn.ne
  | cons c r =>
    have hc := dig_not (hn.dig c List.mem_cons_self)
    unfold Lib.atoiAll
    dsimp only
    rw [if_neg (by omega)]
    unfold Lib.parseMag
    rw [if_neg (by simp), hu]
    dsimp only
    rw [if_neg (by omega), if_neg (by omega), if_neg (by omega)]
theorem dgs_more : ∀ (f v : Nat), 10 ^ f ≤ v → (dgs (f + 1) v).length = f + 1
  | 0, v, h => by
    unfold dgs
    split
    · rfl
    · rw [List.length_append]; rfl
  | f + 1, v, h => by
    rw [Nat.pow_succ] at h
    have h10 : ¬ v < 10 := by have := Nat.one_le_two_pow (n := 0); have : 1 ≤ 10 ^ f := Nat.one_le_pow _ _ (by omega); omega
    unfold dgs
    rw [if_neg h10, List.length_append, dgs_more f (v / 10) (by omega)]
    rfl
theorem dgs_less : ∀ (f g v : Nat), v < 10 ^ g → 1 ≤ g → g ≤ f → (dgs f v).length ≤ g
  | 0, g, v, _, h1, h2 => by omega
  | f + 1, g, v, h, h1, h2 => by
    unfold dgs
    by_cases h10 : v < 10
    · rw [if_pos h10]; exact h1
    · rw [if_neg h10, List.length_append]
      obtain ⟨g, rfl⟩ : ∃ g', g = g' + 1 := ⟨g - 1, by omega⟩
      rw [Nat.pow_succ] at h
      have hg : 1 ≤ g := by
        rcases Nat.eq_zero_or_pos g with h0 | h0
        · subst h0; simp at h; omega
        · exact h0
      have := dgs_less f g (v / 10) (by omega) hg (by omega)
      show _ + 1 ≤ _
      omega
theorem cost_dgs {n : Nat} (hn : n < 2000000) : costV (dgs 7 n) = if n ≤ 1000000 then (n : Int) else 1000000 := by
  have hd := dgs_nat 7 n (by omega) (by decide)
  have hv : costV (dgs 7 n) = costN (dgs 7 n) := by
    generalize dgs 7 n = l at *
    unfold costV
    split
    · rename_i r
      exact absurd (hd.dig 45 List.mem_cons_self) (by decide)
    · rfl
  rw [hv]
  unfold costN
  by_cases h : n < 1000000
  · rw [if_pos (dgs_less 7 6 n (by omega) (by decide) (by decide)), if_pos (by omega)]
    unfold atV
    rw [atoi_dgs (by omega) (by decide) (by omega)]
  · rw [dgs_more 6 n (by omega), if_neg (by decide)]
    split
    · omega
    · rfl
theorem int_dgs {n : Nat} (hn : n < 2000000) : intOk (dgs 7 n) = true := by
  have hd := dgs_nat 7 n (by omega) (by decide)
  have hv : intOk (dgs 7 n) = intD (dgs 7 n) := by
    generalize dgs 7 n = l at *
    unfold intOk
    split
    · rename_i r
      exact absurd (hd.dig 45 List.mem_cons_self) (by decide)
    · rfl
  rw [hv]
  unfold intD
  rw [atoi_dgs (by omega) (by decide) (by omega)]
  have : -9000000 < (n : Int) ∧ (n : Int) < 9000000 := by omega
  simp [this]

theorem sa_any {P Q : List UInt8} {tP tQ : List Tk} (hP : segT 300 0 P = some tP) (hQ : segT 300 0 Q = some tQ) (lP : P.length ≤ 90) (lQ : Q.length ≤ 70)
    (hM : ∀ (D : List UInt8) (p q z : Nat), sdlM z ⟨tP ++ ⟨2, D, p⟩ :: tQ.map (shT q), 0, 0⟩ = (saS D, ⟨[], 0, 0⟩))
    (hT : ∀ q, tokSmall tP = true ∧ tokSmall (tQ.map (shT q)) = true ∧ intsOk tP = true ∧ intsOk (tQ.map (shT q)) = true)
    (hh : ∀ c, Q.head? = some c → nbU c = false ∧ c ≠ 34) (n : Nat) (hn : n < 2000000) :
    sparseM (P ++ dgs 7 n ++ Q) = (saS (dgs 7 n), 0, 0) ∧ tokSmall (lexP (P ++ dgs 7 n ++ Q)).1 = true ∧ intsOk (lexP (P ++ dgs 7 n ++ Q)).1 = true := by
  have hd := dgs_nat 7 n (by omega) (by decide)
  have hl := dgs_len 7 n
  have hi := int_dgs hn
  have hf := form1 (sg := []) (x := dgs 7 n) (.inl rfl) hd (by simp; omega)
  rw [List.nil_append, List.append_nil] at hf
  generalize dgs 7 n = D at *
  obtain ⟨ts, e, hD⟩ := num_lexes hf.1 Q hh (0 + P.length) ([] ++ tP.map (shT 0))
  rw [hf.2, if_pos rfl] at e
  obtain ⟨t, rfl⟩ : ∃ t, ts = [t] := by
    cases ts with
    | nil => cases e
    | cons t r =>
      cases r with
      | nil => exact ⟨t, rfl⟩
      | cons u r => simp at e
  obtain ⟨k, s, p⟩ := t
  have e2 : k = 2 ∧ s = D := by
    injection e with e _
    injection e with e1 e2
    exact ⟨e1, e2⟩
  obtain ⟨rfl, rfl⟩ := e2
  have hQ2 := segT_all hQ (0 + P.length + s.length) [] ([] ++ tP.map (shT 0) ++ [⟨2, s, p⟩])
  have e0 : tP.map (shT 0) = tP := by
    have : shT 0 = id := by funext t; cases t; simp [shT]
    rw [this, List.map_id]
  have hL : lexP (P ++ s ++ Q) = (tP ++ ⟨2, s, p⟩ :: tQ.map (shT (0 + P.length + s.length)), 0, 0) := by
    rw [lexP_G _ (by simp only [List.length_append]; omega), List.append_assoc]
    have h1 := segT_all hP 0 (s ++ Q) []
    rw [h1, hD]
    rw [List.append_nil] at hQ2
    rw [hQ2, lxG_nil, e0]
    simp
  rw [hL]
  obtain ⟨t1, t2, t3, t4⟩ := hT (0 + P.length + s.length)
  refine ⟨?_, ?_, ?_⟩
  · unfold sparseM
    rw [hL]
    dsimp only
    rw [if_pos rfl, hM, if_pos rfl]
  · unfold tokSmall at *
    rw [List.all_append, List.all_cons, t1, t2, decide_eq_true (by show s.length ≤ _; omega)]
    rfl
  · unfold intsOk at *
    rw [List.all_append, List.all_cons, t3, t4]
    show (true && ((!(2 == 2) || intOk s) && true)) = true
    rw [hi]
    rfl

end Go.Proofs.YtkahnlgedacppaaGreatDoor
