/-
  What lex's functions answer of numbers, signs, texts in quotes.
-/
import Derived.Test.YtibkncgfdhflgaaGreatDoorLx2
import Derived.Test.YtibkncgfdhflgaaGreatDoorPlace
namespace Go.Proofs.YtibkncgfdhflgaaGreatDoor
open Go.RowKit

set_option maxHeartbeats 2000000 in
set_option maxRecDepth 100000 in
theorem lxNum_any (s : ByteArray) (w : World) (hs : s.size ≤ 1000000000) : Calls Tryz.prog 58 #[.string s] w (TokIs w (lxNum s.data.toList)) := by
  have HN := Lib.hid (show lxNum s.data.toList = if numOk (s.data.toList.takeWhile nbU) then some (if numWhole (s.data.toList.takeWhile nbU) then 2 else 3, s.data.toList.takeWhile nbU, (s.data.toList.takeWhile nbU).length) else none from rfl)
  have hle := takeWhile_le nbU s.data.toList
  have hl0 : s.data.toList.length = s.size := rfl
  have hL := fun W => longest_any s ⟨(lettersS.data.toList ++ digitsS.data.toList ++ [46, 43, 45]).toArray⟩ nbU W hs (by decide) nb_has ascii_nb
  generalize s.data.toList.takeWhile nbU = t at *
  have hM := fun W => number_any (⟨t.toArray⟩ : ByteArray) W
  rw [toArray_list] at hM
  unfold NumIs at hM
  have htz : (⟨t.toArray⟩ : ByteArray).size = t.length := rfl
  cases hn : numOk t with
  | true =>
    cases hw : numWhole t with
    | true =>
      rw [hn, hw] at hM
      have HY := Lib.hid (show lxNum s.data.toList = some (2, t, t.length) by rw [HN.out, hn, hw]; rfl)
      clear hn hw
      go_enter Tryz.func58, Tryz.ntmps58
      go_wp2_with fail
      refine (hL _).mono ?_
      rintro e w1 ⟨rfl, b1⟩
      go_wp2_with fail
      refine (hM _).mono ?_
      rintro e w2 ⟨rfl, b2⟩
      obtain ⟨q0, q1, q2, qf, hlt, hb⟩ := tok_cells (b1.trans (b2.mono b1.size))
      have q0f := qf 0
      have q1f := qf 1
      have q2f := qf 2
      clear qf b1 b2
      go_wp2_with fail
      exact bodyPost_ret (v := .tuple #[.agg #[.int .i64 (2 : Nat), .string ⟨t.toArray⟩, .int .i64 0], .int .i64 t.length]) (by simp [results, Tryz.results58, go_sem, q0, q1, q2]) rfl (tok_yes HY.out (below_three hb _ _ _))
    | false =>
      rw [hn, hw] at hM
      have HY := Lib.hid (show lxNum s.data.toList = some (3, t, t.length) by rw [HN.out, hn, hw]; rfl)
      clear hn hw
      go_enter Tryz.func58, Tryz.ntmps58
      go_wp2_with fail
      refine (hL _).mono ?_
      rintro e w1 ⟨rfl, b1⟩
      go_wp2_with fail
      refine (hM _).mono ?_
      rintro e w2 ⟨rfl, b2⟩
      obtain ⟨q0, q1, q2, qf, hlt, hb⟩ := tok_cells (b1.trans (b2.mono b1.size))
      have q0f := qf 0
      have q1f := qf 1
      have q2f := qf 2
      clear qf b1 b2
      go_wp2_with fail
      exact bodyPost_ret (v := .tuple #[.agg #[.int .i64 (3 : Nat), .string ⟨t.toArray⟩, .int .i64 0], .int .i64 t.length]) (by simp [results, Tryz.results58, go_sem, q0, q1, q2]) rfl (tok_yes HY.out (below_three hb _ _ _))
  | false =>
    have hw : numWhole t = false := by unfold numWhole; rw [hn]; rfl
    rw [hn, hw] at hM
    have HY := Lib.hid (show lxNum s.data.toList = none by rw [HN.out, hn]; rfl)
    clear hn hw
    go_enter Tryz.func58, Tryz.ntmps58
    go_wp2_with fail
    refine (hL _).mono ?_
    rintro e w1 ⟨rfl, b1⟩
    go_wp2_with fail
    refine (hM _).mono ?_
    rintro e w2 ⟨rfl, b2⟩
    obtain ⟨q0, q1, q2, qf, hlt, hb⟩ := tok_cells (b1.trans (b2.mono b1.size))
    have q0f := qf 0
    have q1f := qf 1
    have q2f := qf 2
    clear qf b1 b2
    go_wp2_with fail
    exact bodyPost_ret (v := .tuple #[.agg #[.int .i64 0, .string ⟨#[]⟩, .int .i64 0], .int .i64 0]) (by simp [results, Tryz.results58, go_sem, q0, q1, q2]) rfl (tok_no HY.out (below_three hb _ _ _))

/-! ### signs -/
theorem head_list (s : ByteArray) (h : 0 < s.size) : s.data.toList = s[0] :: s.data.toList.drop 1 := by
  have e := drop_cons s 0 h
  rwa [List.drop_zero] at e

set_option maxHeartbeats 1000000 in
set_option maxRecDepth 100000 in
theorem lxSign_any (s : ByteArray) (w : World) (h0 : 0 < s.size) (hs : s.size ≤ 1000000000) : Calls Tryz.prog 62 #[.string s] w (TokIs w (lxSign s.data.toList)) := by
  have hP := fun W => turnW (Tryz.strings_HasPrefix s ⟨lxDots.toArray⟩ W)
  rw [toArray_list] at hP
  have HN := Lib.hid (show lxSign s.data.toList = if Lib.hasPrefix s.data.toList lxDots then some (5, lxDots, 3) else if signsS.data.toList.contains s[0] then some (5, [s[0]], 1) else none by
    unfold lxSign
    conv => lhs; arg 3; rw [head_list s h0])
  cases hp : Lib.hasPrefix s.data.toList lxDots with
  | true =>
    rw [hp] at hP
    have HY := Lib.hid (show lxSign s.data.toList = some (5, lxDots, 3) by rw [HN.out, hp]; rfl)
    clear hp
    go_enter Tryz.func62, Tryz.ntmps62
    go_wp2_with fail
    refine (hP _).mono ?_
    rintro e w2 ⟨rfl, rfl⟩
    go_wp2_with fail
    exact bodyPost_ret (v := .tuple #[.agg #[.int .i64 (5 : Nat), .string ⟨lxDots.toArray⟩, .int .i64 0], .int .i64 (3 : Nat)]) (by simp [results, Tryz.results62, go_sem]; rfl) rfl (tok_yes HY.out ((Below.refl _ _).alloc (Nat.le_refl _) _))
  | false =>
    rw [hp] at hP
    have hO := fun W => isOneOf_any s[0] signsS W
    cases ho : signsS.data.toList.contains s[0] with
    | true =>
      rw [ho] at hO
      have HY := Lib.hid (show lxSign s.data.toList = some (5, [s[0]], 1) by rw [HN.out, hp, ho]; rfl)
      have HX := Lib.hid <| eq_ofL (show (s.extract 0 1).data.toList = [s[0]] by rw [lext_front, head_list s h0]; rfl)
      clear hp ho
      go_enter Tryz.func62, Tryz.ntmps62
      go_wp2_with fail
      refine (hP _).mono ?_
      rintro e w2 ⟨rfl, rfl⟩
      go_wp2_with fail
      refine (hO _).mono ?_
      rintro e w3 ⟨rfl, rfl⟩
      go_wp2_with fail
      refine (lclone_any (s.extract 0 1) _ (by simp; omega)).mono ?_
      rintro e w4 ⟨rfl, b4⟩
      obtain ⟨q0, q1, q2, qf, hlt, hb⟩ := tok_cells b4
      have q0f := qf 0
      have q1f := qf 1
      have q2f := qf 2
      clear qf b4
      go_wp2_with fail
      exact bodyPost_ret (v := .tuple #[.agg #[.int .i64 (5 : Nat), .string ⟨[s[0]].toArray⟩, .int .i64 0], .int .i64 (1 : Nat)]) (by rw [← HX.out]; simp [results, Tryz.results62, go_sem, q0, q1, q2]) rfl (tok_yes HY.out (below_three hb _ _ _))
    | false =>
      rw [ho] at hO
      have HY := Lib.hid (show lxSign s.data.toList = none by rw [HN.out, hp, ho]; rfl)
      clear hp ho
      go_enter Tryz.func62, Tryz.ntmps62
      go_wp2_with fail
      refine (hP _).mono ?_
      rintro e w2 ⟨rfl, rfl⟩
      go_wp2_with fail
      refine (hO _).mono ?_
      rintro e w3 ⟨rfl, rfl⟩
      go_wp2_with fail
      exact bodyPost_ret (v := .tuple #[.agg #[.int .i64 0, .string ⟨#[]⟩, .int .i64 0], .int .i64 0]) (by simp [results, Tryz.results62, go_sem]) rfl (tok_no HY.out ((Below.refl _ _).alloc (Nat.le_refl _) _))

/-! ### texts in quotes -/
theorem lxQs_cons (i : Nat) (b : UInt8) (r : List UInt8) : lxQs i (b :: r) = if b = 34 then i + 1 else if b = 92 then lxQs (i + 2) (r.drop 1) else if lxEnd b then 0 else lxQs (i + 1) r := by
  cases r with
  | nil =>
    unfold lxQs
    by_cases h : b = 34
    · rw [if_pos h, if_pos h]
    · rw [if_neg h, if_neg h]
      simp
  | cons c r => rfl
theorem lxQs_at (s : ByteArray) (i : Nat) (h : i < s.size) : lxQs i (s.data.toList.drop i) = if s[i] = 34 then i + 1 else if s[i] = 92 then lxQs (i + 2) (s.data.toList.drop (i + 2)) else if lxEnd s[i] then 0 else lxQs (i + 1) (s.data.toList.drop (i + 1)) := by
  rw [drop_cons s i h, lxQs_cons, List.drop_drop]
theorem lxQs_end (s : ByteArray) (i : Nat) (h : ¬ i < s.size) : lxQs i (s.data.toList.drop i) = 0 := by rw [drop_end s i h]; rfl
theorem u8_is {b : UInt8} {n : Nat} (h : n < 256) (hb : (b.toNat : Int) = n) : b = UInt8.ofNat n := UInt8.toNat_inj.1 (by rw [UInt8.toNat_ofNat_of_lt' (by simpa using h)]; omega)
theorem u8_not {b : UInt8} {n : Nat} (hb : ¬ (b.toNat : Int) = n) : b ≠ UInt8.ofNat n ∨ 256 ≤ n := by
  by_cases h : n < 256
  · refine .inl fun e => hb ?_
    rw [e, UInt8.toNat_ofNat_of_lt' (by simpa using h)]
  · exact .inr (by omega)

set_option maxHeartbeats 1000000 in
set_option maxRecDepth 100000 in
theorem quotedSize_any (s : ByteArray) (w : World) (hs : s.size ≤ 1000000000) : Calls Tryz.prog 82 #[.string s] w fun e w' => e = .returned (.int .i64 (lxQn s.data.toList)) ∧ w = w' := by
  go_enter Tryz.func82, Tryz.ntmps82
  go_wp2_with fail
  go_loop [3] (fun v => ∃ i : Nat, v = .int .i64 i ∧ 1 ≤ i ∧ i ≤ s.size + 1 + 1 ∧ Hid (lxQn s.data.toList = lxQs i (s.data.toList.drop i))) (fun v => s.size + 2 - (intOf v).toNat)
  case atStart => exact ⟨1, by go_num, Nat.le_refl _, by omega, Lib.hid rfl⟩
  case round =>
    obtain ⟨i, rfl, hi1, hi2, HE⟩ := hrel
    by_cases hlt : i < s.size
    · have hd1 : decide ((i : Int) < s.size) = true := decide_eq_true (by omega)
      have hat := lxQs_at s i hlt
      by_cases h34 : (s[i].toNat : Int) = 34
      · have h34' : s[i] = 34 := u8_is (n := 34) (by decide) h34
        rw [if_pos h34'] at hat
        have HF := Lib.hid (show lxQn s.data.toList = i + 1 by rw [HE.out, hat])
        have hn : ((s[i].toNat : Int) == 34) = true := by simpa using h34
        clear hat h34 h34'
        go_wp2_with fail
        go_ret
        exact ⟨ret_i64 (by rw [HF.out]; omega), rfl⟩
      · have h34' : s[i] ≠ 34 := fun e => h34 (by rw [e]; rfl)
        have hn : ((s[i].toNat : Int) == 34) = false := by simpa using h34
        rw [if_neg h34'] at hat
        clear h34 h34'
        by_cases h92 : (s[i].toNat : Int) = 92
        · have h92' : s[i] = 92 := u8_is (n := 92) (by decide) h92
          rw [if_pos h92'] at hat
          have HF := Lib.hid (show lxQn s.data.toList = lxQs (i + 2) (s.data.toList.drop (i + 2)) by rw [HE.out, hat])
          have hn2 : ((s[i].toNat : Int) == 92) = true := by simpa using h92
          clear hat h92 h92'
          go_wp2_with fail
          go_round
          case rel => exact ⟨i + 2, by go_num, by omega, by omega, HF⟩
          case measure => simp [intOf]; omega
        · have h92' : s[i] ≠ 92 := fun e => h92 (by rw [e]; rfl)
          have hn2 : ((s[i].toNat : Int) == 92) = false := by simpa using h92
          rw [if_neg h92'] at hat
          clear h92 h92'
          by_cases h10 : (s[i].toNat : Int) = 10
          · have h10' : s[i] = 10 := u8_is (n := 10) (by decide) h10
            rw [if_pos (by rw [h10']; rfl)] at hat
            have HF := Lib.hid (show lxQn s.data.toList = 0 by rw [HE.out, hat])
            have hn3 : ((s[i].toNat : Int) == 10) = true := by simpa using h10
            clear hat h10 h10'
            go_wp2_with fail
            go_ret
            exact ⟨ret_i64 (by rw [HF.out]; rfl), rfl⟩
          · have h10' : s[i] ≠ 10 := fun e => h10 (by rw [e]; rfl)
            have hn3 : ((s[i].toNat : Int) == 10) = false := by simpa using h10
            by_cases h13 : (s[i].toNat : Int) = 13
            · have h13' : s[i] = 13 := u8_is (n := 13) (by decide) h13
              rw [if_pos (by rw [h13']; rfl)] at hat
              have HF := Lib.hid (show lxQn s.data.toList = 0 by rw [HE.out, hat])
              have hn4 : ((s[i].toNat : Int) == 13) = true := by simpa using h13
              clear hat h10 h10' h13 h13'
              go_wp2_with fail
              go_ret
              exact ⟨ret_i64 (by rw [HF.out]; rfl), rfl⟩
            · have h13' : s[i] ≠ 13 := fun e => h13 (by rw [e]; rfl)
              have hn4 : ((s[i].toNat : Int) == 13) = false := by simpa using h13
              rw [if_neg (by simp [lxEnd, h10', h13'])] at hat
              have HF := Lib.hid (show lxQn s.data.toList = lxQs (i + 1) (s.data.toList.drop (i + 1)) by rw [HE.out, hat])
              clear hat h10 h10' h13 h13'
              go_wp2_with fail
              go_round
              case rel => exact ⟨i + 1, by go_num, by omega, by omega, HF⟩
              case measure => simp [intOf]; omega
    · have hd1 : decide ((i : Int) < s.size) = false := decide_eq_false (by omega)
      have HF := Lib.hid (show lxQn s.data.toList = 0 by rw [HE.out, lxQs_end s i hlt])
      go_wp2_with fail
      go_ret
      exact ⟨ret_i64 (by rw [HF.out]; rfl), rfl⟩

set_option maxHeartbeats 1000000 in
set_option maxRecDepth 100000 in
theorem lxQuoted_any (s : ByteArray) (w : World) (h0 : 0 < s.size) (hs : s.size ≤ 1000000000) : Calls Tryz.prog 61 #[.string s] w (TokIs w (lxQuoted s.data.toList)) := by
  have hQ := fun W => quotedSize_any s W hs
  have hle : lxQn s.data.toList ≤ _ := (lxQs_le (s.data.toList.drop 1).length (s.data.toList.drop 1) 1 (Nat.le_refl _)).1
  rw [len_drop] at hle
  have HN := Lib.hid (show lxQuoted s.data.toList = match unqP (s.data.toList.take (lxQn s.data.toList)) with
    | none => none
    | some t => some (4, t, lxQn s.data.toList) from rfl)
  generalize lxQn s.data.toList = n at *
  have hU := fun W => unquote_any (s.extract 0 n) W (by simp; omega)
  rw [lext_front] at hU
  have hn : n ≤ s.size := by omega
  clear hle
  cases hu : unqP (s.data.toList.take n) with
  | none =>
    rw [hu] at hU
    have HY := Lib.hid (show lxQuoted s.data.toList = none by rw [HN.out, hu])
    clear hu
    go_enter Tryz.func61, Tryz.ntmps61
    go_wp2_with fail
    refine (hQ _).mono ?_
    rintro e w1 ⟨rfl, rfl⟩
    go_wp2_with fail
    refine (hU _).mono ?_
    rintro e w2 ⟨b2, rfl⟩
    obtain ⟨q0, q1, q2, qf, hlt, hb⟩ := tok_cells b2
    have q0f := qf 0
    have q1f := qf 1
    have q2f := qf 2
    clear qf b2
    go_wp2_with fail
    exact bodyPost_ret (v := .tuple #[.agg #[.int .i64 0, .string ⟨#[]⟩, .int .i64 0], .int .i64 0]) (by simp [results, Tryz.results61, go_sem, q0, q1, q2]) rfl (tok_no HY.out (below_three hb _ _ _))
  | some t =>
    rw [hu] at hU
    have HY := Lib.hid (show lxQuoted s.data.toList = some (4, t, n) by rw [HN.out, hu])
    clear hu
    go_enter Tryz.func61, Tryz.ntmps61
    go_wp2_with fail
    refine (hQ _).mono ?_
    rintro e w1 ⟨rfl, rfl⟩
    go_wp2_with fail
    refine (hU _).mono ?_
    rintro e w2 ⟨b2, rfl⟩
    obtain ⟨q0, q1, q2, qf, hlt, hb⟩ := tok_cells b2
    have q0f := qf 0
    have q1f := qf 1
    have q2f := qf 2
    clear qf b2
    go_wp2_with fail
    exact bodyPost_ret (v := .tuple #[.agg #[.int .i64 (4 : Nat), .string ⟨t.toArray⟩, .int .i64 0], .int .i64 n]) (by simp [results, Tryz.results61, go_sem, q0, q1, q2]) rfl (tok_yes HY.out (below_three hb _ _ _))

end Go.Proofs.YtibkncgfdhflgaaGreatDoor
