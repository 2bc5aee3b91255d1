/-
  LexRemarks: its walk.
-/
import Derived.Test.YtakmkhkbeabgcaaDoorLx7
namespace Go.Proofs.YtakmkhkbeabgcaaDoor
open Go.RowKit

theorem lr_ix0 (W : World) : (Instr.index 44 (.agg #[.string ⟨#[10]⟩, .string ⟨#[13]⟩, .string ⟨#[13, 10]⟩]) (.int .i64 ((0 : Nat) : Int))).run Tryd.prog W = .ok (.string ⟨#[10]⟩) W := by kernel_rfl
theorem lr_ix1 (W : World) : (Instr.index 44 (.agg #[.string ⟨#[10]⟩, .string ⟨#[13]⟩, .string ⟨#[13, 10]⟩]) (.int .i64 ((1 : Nat) : Int))).run Tryd.prog W = .ok (.string ⟨#[13]⟩) W := by kernel_rfl
theorem lr_ix2 (W : World) : (Instr.index 44 (.agg #[.string ⟨#[10]⟩, .string ⟨#[13]⟩, .string ⟨#[13, 10]⟩]) (.int .i64 ((2 : Nat) : Int))).run Tryd.prog W = .ok (.string ⟨#[13, 10]⟩) W := by kernel_rfl

/-- A name, a remark, and what stands behind its line. -/
theorem lxG_remark (l t : List UInt8) (hl : ∀ b ∈ l, lxEnd b = false) (ht : ∀ c, t.head? = some c → lxEnd c = true) : lxG 0 (97 :: 35 :: (l ++ t)) [] = lxG (l.length + 2) t [⟨1, [97], 0⟩] := by
  have h1 : lxRem (35 :: (l ++ t)) = l.length + 1 := by
    have := rem_all (35 :: l) (fun b hb => by
      rcases List.mem_cons.1 hb with rfl | h
      · decide
      · exact hl b h) t
    rw [List.cons_append] at this
    rw [this]
    have h0 : lxRem t = 0 := by
      cases t with
      | nil => rfl
      | cons c t => rw [lxRem_cons, ht c rfl]; rfl
    rw [h0]
    simp
  rw [lxG_some 0 97 _ [] (by decide) (by decide) (word_a 97 (35 :: (l ++ t)) (by decide) (fun c hc => by simp at hc; subst hc; decide))]
  show lxG (0 + 1) (35 :: (l ++ t)) _ = _
  rw [lxG_rem, h1]
  have h2 : (35 :: (l ++ t)).drop (l.length + 1) = t := by
    show (l ++ t).drop l.length = t
    exact List.drop_left
  rw [h2]
  congr 1
  omega
theorem lr_one (l : List UInt8) (hl : ∀ b ∈ l, lxEnd b = false) (hs : l.length ≤ 500) : lexP ([97, 35] ++ l) = ([⟨1, [97], 0⟩], 0, 0) := by
  rw [lexP_G _ (by simp; omega)]
  have := lxG_remark l [] hl (fun c hc => by cases hc)
  rw [List.append_nil] at this
  exact this
theorem lr_b (a : Nat) (acc : List Tk) : lxG a [98] acc = (acc ++ [⟨1, [98], a⟩], 0, 0) := by
  rw [lxG_some a 98 [] acc (by decide) (by decide) (word_a 98 [] (by decide) (fun c hc => by cases hc))]
  rfl
theorem lr_two (l nl : List UInt8) (hl : ∀ b ∈ l, lxEnd b = false) (hs : l.length ≤ 500) (hn : nl = [10] ∨ nl = [13] ∨ nl = [13, 10]) : ∃ q, lexP ([97, 35] ++ l ++ nl ++ [98]) = ([⟨1, [97], 0⟩, ⟨1, [98], q⟩], 0, 0) := by
  have hlen : nl.length ≤ 2 := by rcases hn with rfl | rfl | rfl <;> decide
  rw [lexP_G _ (by simp; omega)]
  have := lxG_remark l (nl ++ [98]) hl (fun c hc => by rcases hn with rfl | rfl | rfl <;> simp at hc <;> subst hc <;> decide)
  rw [List.append_assoc, List.append_assoc]
  have e : [97, 35] ++ (l ++ (nl ++ [98])) = 97 :: 35 :: (l ++ (nl ++ [98])) := rfl
  rw [e, this]
  rcases hn with rfl | rfl | rfl
  · exact ⟨_, by show lxG _ (10 :: [98]) _ = _; rw [lxG_blank _ _ _ _ (by decide), lr_b]; rfl⟩
  · exact ⟨_, by show lxG _ (13 :: [98]) _ = _; rw [lxG_blank _ _ _ _ (by decide), lr_b]; rfl⟩
  · exact ⟨_, by show lxG _ (13 :: 10 :: [98]) _ = _; rw [lxG_blank _ _ _ _ (by decide), lxG_blank _ _ _ _ (by decide), lr_b]; rfl⟩

theorem end_no {b : UInt8} (h1 : ((b.toNat : Int) == 10) = false) (h2 : ((b.toNat : Int) == 13) = false) : lxEnd b = false := by
  unfold lxEnd
  rw [Bool.or_eq_false_iff]
  constructor
  · rw [beq_eq_false_iff_ne]; intro e; subst e; exact absurd h1 (by decide)
  · rw [beq_eq_false_iff_ne]; intro e; subst e; exact absurd h2 (by decide)

set_option maxHeartbeats 2000000 in
set_option maxRecDepth 100000 in
theorem lr_walk (s : ByteArray) (en : Int) (w : World) (m : Nat) (nl : ByteArray) (hs : s.size ≤ 500)
    (HPm : ∀ W, Calls Tryd.prog 13 #[.int .i64 en, .int .i64 3] W fun e w' => e = .returned (.int .i64 (m : Int)) ∧ W = w')
    (hix : ∀ W, (Instr.index 44 (.agg #[.string ⟨#[10]⟩, .string ⟨#[13]⟩, .string ⟨#[13, 10]⟩]) (.int .i64 (m : Int))).run Tryd.prog W = .ok (.string nl) W)
    (hnl : nl.data.toList = [10] ∨ nl.data.toList = [13] ∨ nl.data.toList = [13, 10]) :
    Calls Tryd.prog 8 #[.string s, .int .i64 en] w (TrueBelow w) := by
  have hd0 : decide ((500 : Int) < (s.size : Int)) = false := decide_eq_false (by omega)
  go_enter Tryd.func8, Tryd.ntmps8
  go_wp2_with fail
  go_loop [5] (fun v5 => ∃ i : Nat, i ≤ s.size ∧ v5 = .int .i64 i ∧ Hid (∀ b ∈ s.data.toList.take i, lxEnd b = false)) (fun v5 => s.size - (intOf v5).toNat)
  case atStart => exact ⟨0, Nat.zero_le _, rfl, Lib.hid (by simp)⟩
  case round =>
    obtain ⟨i, his, rfl, HA⟩ := hrel
    by_cases hlt : i < s.size
    · have hd1 : decide ((i : Int) < s.size) = true := decide_eq_true (by omega)
      cases h10 : ((s[i].toNat : Int) == 10) with
      | true =>
        go_wp2_with fail
        refine (lxAwake _).mono ?_
        rintro e w3 ⟨rfl, b3⟩
        go_wp2_with fail
        go_ret
        exact ⟨rfl, b3⟩
      | false =>
        cases h13 : ((s[i].toNat : Int) == 13) with
        | true =>
          go_wp2_with fail
          refine (lxAwake _).mono ?_
          rintro e w3 ⟨rfl, b3⟩
          go_wp2_with fail
          go_ret
          exact ⟨rfl, b3⟩
        | false =>
          have HN := Lib.hid (end_no h10 h13)
          go_wp2_with fail
          go_round
          case rel =>
            refine ⟨i + 1, by omega, by go_num, Lib.hid fun b hb => ?_⟩
            rw [List.take_succ_eq_append_getElem (show i < s.data.toList.length from hlt)] at hb
            rcases List.mem_append.1 hb with h | h
            · exact HA.out b h
            · rw [List.mem_singleton.1 h]; exact HN.out
          case measure => simp [intOf]; omega
    · have hd1 : decide ((i : Int) < s.size) = false := decide_eq_false (by omega)
      have hall : ∀ b ∈ s.data.toList, lxEnd b = false := by
        have h := HA.out
        rwa [List.take_of_length_le (show s.data.toList.length ≤ i by show s.size ≤ i; omega)] at h
      obtain ⟨q, h2⟩ := lr_two s.data.toList nl.data.toList hall hs hnl
      have h1 := lr_one s.data.toList hall hs
      have hnz : nl.size ≤ 2 := by
        show nl.data.toList.length ≤ 2
        rcases hnl with h | h | h <;> rw [h] <;> decide
      have hA1 := fun W => lex_toks (s := ⟨#[97, 35]⟩ ++ s ++ nl ++ ⟨#[98]⟩) (ts := [⟨1, [97], 0⟩, ⟨1, [98], q⟩]) (by rw [app_list, app_list, app_list]; exact h2) (show 0 < 2 by decide) W (by rw [ByteArray.size_append, ByteArray.size_append, ByteArray.size_append]; show 2 + _ + _ + 1 ≤ _; omega)
      have hA2 := fun W => lex_toks (s := ⟨#[97, 35]⟩ ++ s) (ts := [⟨1, [97], 0⟩]) (by rw [app_list]; exact h1) (show 0 < 1 by decide) W (by rw [ByteArray.size_append]; show 2 + _ ≤ _; omega)
      have HA1 := Lib.hid hA1
      have HA2 := Lib.hid hA2
      clear hall h1 h2 hnl hA1 hA2 HA
      go_wp2_with fail
      refine (HPm _).mono ?_
      rintro e w1 ⟨rfl, rfl⟩
      go_wp2_with fail
      refine (HA1.out _).mono ?_
      rintro e w1 ⟨b1, g, cap, rfl, hcap, hg1, hg2, hc⟩
      have c4 : w1.cell? ⟨g, 4, none⟩ = some (.string ⟨#[98]⟩) := hc 4 _ rfl
      clear hc
      go_wp2_with fail
      refine (HA2.out _).mono ?_
      rintro e w2 ⟨b2, g2, cap2, rfl, hcap2, hg3, hg4, hc2⟩
      have c4' : w2.cell? ⟨g, 4, none⟩ = some (.string ⟨#[98]⟩) := (b2.cell (p := ⟨g, 4, none⟩) hg2).trans c4
      have hcap' : 2 ≤ cap := hcap
      clear hc2 c4 hcap hcap2
      go_wp2_with fail
      refine (lxAwake _).mono ?_
      rintro e w3 ⟨rfl, b3⟩
      go_wp2_with fail
      go_ret
      exact ⟨rfl, (b1.trans (b2.mono b1.size)).trans (b3.mono (by have := b1.size; have := b2.size; omega))⟩

set_option maxHeartbeats 1000000 in
theorem lexRemarks_walk (s : ByteArray) (en : Int) (w : World) : Calls Tryd.prog 8 #[.string s, .int .i64 en] w (TrueBelow w) := by
  by_cases hs : s.size ≤ 500
  · obtain ⟨m, em, lm⟩ := lrem_nat en 3 (by omega)
    have HPm : ∀ W, Calls Tryd.prog 13 #[.int .i64 en, .int .i64 3] W fun e w' => e = .returned (.int .i64 (m : Int)) ∧ W = w' := fun W => by have := place_any en 3 W (by omega) (by omega); rw [em] at this; exact this
    have hm : m < 3 := by omega
    clear em lm
    match m, hm with
    | 0, _ => exact lr_walk s en w 0 ⟨#[10]⟩ hs HPm lr_ix0 (.inl rfl)
    | 1, _ => exact lr_walk s en w 1 ⟨#[13]⟩ hs HPm lr_ix1 (.inr (.inl rfl))
    | 2, _ => exact lr_walk s en w 2 ⟨#[13, 10]⟩ hs HPm lr_ix2 (.inr (.inr rfl))
  · have hd0 : decide ((500 : Int) < (s.size : Int)) = true := decide_eq_true (by omega)
    go_enter Tryd.func8, Tryd.ntmps8
    go_wp2_with fail
    refine (lxAwake _).mono ?_
    rintro e w3 ⟨rfl, b3⟩
    go_wp2_with fail
    go_ret
    exact ⟨rfl, b3⟩

end Go.Proofs.YtakmkhkbeabgcaaDoor
