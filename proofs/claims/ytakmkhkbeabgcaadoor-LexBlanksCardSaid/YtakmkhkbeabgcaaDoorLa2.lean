/-
  What the document's lex answers of texts.
-/
import Derived.Test.YtakmkhkbeabgcaaDoorLa1
namespace Go.Proofs.YtakmkhkbeabgcaaDoor
open Go.RowKit

theorem qt_zero {l : List UInt8} (h : lxQn l = 0) : qtP l = none := by
  unfold qtP
  rw [h, List.take_zero, show unqP [] = none from by unfold unqP; rfl]
theorem take_last {l : List UInt8} {j : Nat} {b : UInt8} (h : l[j]? = some b) : (l.take (j + 1)).getLast? = some b := by
  rw [List.take_add_one, h]
  exact List.getLast?_concat
theorem unq_last {l : List UInt8} {b : UInt8} (h : l.getLast? = some b) (hb : b ≠ 34) : unqP l = none := unqP_no _ fun hh => by
  have := hh.2.2.1
  rw [h] at this
  exact hb (Option.some.inj this)

set_option maxHeartbeats 4000000 in
set_option maxRecDepth 100000 in
theorem refTx_any (s : ByteArray) (p : Nat) (w : World) (hp : p < s.size) (hs : s.size ≤ 90000) : Calls Tryd.prog 30 #[.string s, .int .i64 (p : Int)] w (TxIs w p (txtP (s.data.toList.drop p))) := by
  have q1 : IntKind.i64.wrap ((s.size : Int) - p) = (s.size : Int) - p := IntWalk.i64_in _ (by omega)
  cases h1 : Lib.hasPrefix (s.data.toList.drop p) lxFence with
  | true =>
    have hl3 : p + 3 ≤ s.size := by
      have h := (List.isPrefixOf_iff_prefix.1 h1).length_le
      rw [len_drop] at h
      have : lxFence.length = 3 := rfl
      omega
    have hx : ((s.extract p (p + 3)).toList == [34, 34, 34]) = true := ext_is s p 3 lxFence rfl true h1
    have hge : decide ((3 : Int) ≤ (s.size : Int) - p) = true := decide_eq_true (by omega)
    have hsl := slice_two' s p (p + 3) (by omega) hl3 ((p : Int) + 3) (by omega)
    have hB := fun W => refBlk_any s p W hl3 hs
    rw [show ((p + 3 : Nat) : Int) = (p : Int) + 3 by omega] at hB
    have HT := Lib.hid (show txtP (s.data.toList.drop p) = blkP (s.data.toList.drop p) from if_pos h1)
    clear h1
    generalize s.extract p (p + 3) = ex at *
    generalize blkP (s.data.toList.drop p) = o at *
    cases o with
    | none =>
      go_enter Tryd.func30, Tryd.ntmps30
      go_wp2_with fail
      refine (hB _).mono ?_
      rintro e w2 ⟨b2, t, n, rfl⟩
      go_wp2_with fail
      exact bodyPost_ret (v := .tuple #[.string t, .int .i64 n, .bool false]) (by simp [results, Tryd.results30, go_sem]) rfl (tx_no HT.out b2)
    | some x =>
      obtain ⟨t, n⟩ := x
      go_enter Tryd.func30, Tryd.ntmps30
      go_wp2_with fail
      refine (hB _).mono ?_
      rintro e w2 ⟨b2, rfl⟩
      go_wp2_with fail
      exact bodyPost_ret (v := .tuple #[.string ⟨t.toArray⟩, .int .i64 ((p + n : Nat) : Int), .bool true]) (by simp [results, Tryd.results30, go_sem]) rfl (tx_yes HT.out rfl b2)
  | false =>
    have hx : ((s.extract p (p + 3)).toList == [34, 34, 34]) = false := ext_is s p 3 lxFence rfl false h1
    have HT := Lib.hid (show txtP (s.data.toList.drop p) = qtP (s.data.toList.drop p) from if_neg (by rw [h1]; decide))
    have hk3 : decide ((3 : Int) ≤ (s.size : Int) - p) = false ∨ (decide ((3 : Int) ≤ (s.size : Int) - p) = true ∧ ∀ W, (Instr.slice 9 (.string s) (some (.int .i64 p)) (some (.int .i64 ((p : Int) + 3))) none).run Tryd.prog W = .ok (.string (s.extract p (p + 3))) W) := by
      by_cases g3 : p + 3 ≤ s.size
      · exact .inr ⟨decide_eq_true (by omega), slice_two' s p (p + 3) (by omega) g3 ((p : Int) + 3) (by omega)⟩
      · exact .inl (decide_eq_false (by omega))
    clear h1
    generalize s.extract p (p + 3) = ex at *
    rcases hk3 with hge | ⟨hge, hsl⟩
    all_goals
      go_enter Tryd.func30, Tryd.ntmps30
      go_wp2_with fail
      clear hge hx
      (first | clear hsl | skip)
      go_loop [7] (fun v7 => ∃ k j : Nat, v7 = .int .i64 (k : Nat) ∧ p < k ∧ k ≤ s.size + 1 ∧ Hid (k = p + j) ∧ Hid (lxQs j (s.data.toList.drop k) = lxQn (s.data.toList.drop p))) (fun v7 => s.size + 1 - (intOf v7).toNat)
      case atStart => exact ⟨p + 1, 1, by go_num, by omega, by omega, Lib.hid rfl, Lib.hid (by unfold lxQn; rw [List.drop_drop])⟩
      case round =>
        obtain ⟨k, j, rfl, hk1, hk2, HK, HR⟩ := hrel
        by_cases hil : k < s.size
        · have hd1 : decide ((k : Int) < s.size) = true := decide_eq_true (by omega)
          have hd2 : decide ((s.size : Int) ≤ k) = false := decide_eq_false (by omega)
          have HD := Lib.hid (drop_cons s k hil)
          have hl := Lib.hid (show (s.data.toList.drop p)[j]? = some s[k] by rw [List.getElem?_drop, ← HK.out, ← List.head?_drop, HD.out]; rfl)
          have hsu := slice_two' s p (k + 1) (by omega) (by omega) ((k : Int) + 1) (by omega)
          have hU := fun W => refUnquote_any (s.extract p (k + 1)) W (by simp; omega)
          rw [lext_list, show k + 1 - p = j + 1 by have := HK.out; omega] at hU
          have hne : ∀ n : Nat, n < 256 → ((s[k].toNat : Int) != (n : Int)) = !(decide (s[k] = UInt8.ofNat n)) := fun n hn => by
            rw [Bool.eq_iff_iff]
            simp only [bne_iff_ne, ne_eq, Bool.not_eq_true', decide_eq_false_iff_not, ← UInt8.toNat_inj]
            rw [UInt8.toNat_ofNat_of_lt' (by simpa using hn)]
            omega
          have n34 := hne 34 (by decide)
          have n10 := hne 10 (by decide)
          have n13 := hne 13 (by decide)
          have n92 : ((s[k].toNat : Int) == 92) = decide (s[k] = 92) := by rw [Bool.eq_iff_iff]; simp [← UInt8.toNat_inj]; omega
          clear hne
          have HS := Lib.hid (show lxQn (s.data.toList.drop p) = if s[k] = 34 then j + 1 else if s[k] = 92 then lxQs (j + 2) (s.data.toList.drop (k + 2)) else if lxEnd s[k] then 0 else lxQs (j + 1) (s.data.toList.drop (k + 1)) by
            rw [← HR.out, HD.out, lxQs_cons, List.drop_drop])
          clear HR
          by_cases h34 : s[k] = 34
          · have m34 : ((s[k].toNat : Int) != 34) = false := n34.trans (by rw [h34]; decide)
            have HN := Lib.hid (show lxQn (s.data.toList.drop p) = j + 1 by rw [HS.out, if_pos h34])
            clear n34 n10 n13 n92 h34
            have HQ : Hid (qtP (s.data.toList.drop p) = match unqP ((s.data.toList.drop p).take (j + 1)) with
              | none => none
              | some t => some (t, j + 1)) := Lib.hid (by unfold qtP; rw [HN.out]; rfl)
            generalize s.extract p (k + 1) = eu at *
            generalize unqP ((s.data.toList.drop p).take (j + 1)) = o at *
            cases o with
            | none =>
              go_wp2_with fail
              refine (hU _).mono ?_
              rintro e w2 ⟨b2, rfl⟩
              go_wp2_with fail
              exact bodyPost_ret (v := .tuple #[.string ⟨#[]⟩, .int .i64 ((k : Int) + 1), .bool false]) (by simp [results, Tryd.results30, go_sem]) rfl (tx_no (HT.out.trans HQ.out) b2)
            | some t =>
              go_wp2_with fail
              refine (hU _).mono ?_
              rintro e w2 ⟨b2, rfl⟩
              go_wp2_with fail
              exact bodyPost_ret (v := .tuple #[.string ⟨t.toArray⟩, .int .i64 ((k : Int) + 1), .bool true]) (by simp [results, Tryd.results30, go_sem]) rfl (tx_yes (HT.out.trans HQ.out) (by have := HK.out; omega) b2)
          · have m34 : ((s[k].toNat : Int) != 34) = true := n34.trans (by rw [show (34 : UInt8) = UInt8.ofNat 34 from rfl] at h34; rw [decide_eq_false h34]; rfl)
            by_cases hen : s[k] = 10 ∨ s[k] = 13
            · have h92 : s[k] ≠ 92 := by rcases hen with h | h <;> (rw [h]; decide)
              have HN := Lib.hid (qt_zero (show lxQn (s.data.toList.drop p) = 0 by rw [HS.out, if_neg h34, if_neg h92, if_pos (by unfold lxEnd; rcases hen with h | h <;> rw [h] <;> rfl)]))
              have hun := unq_last (take_last hl.out) h34
              rw [hun] at hU
              have mm : ((s[k].toNat : Int) != 10) = false ∨ (((s[k].toNat : Int) != 10) = true ∧ ((s[k].toNat : Int) != 13) = false) := by
                rcases hen with h | h
                · exact .inl (n10.trans (by rw [h]; decide))
                · exact .inr ⟨n10.trans (by rw [h]; decide), n13.trans (by rw [h]; decide)⟩
              clear n34 n10 n13 n92 h34 h92 hen hun
              generalize s.extract p (k + 1) = eu at *
              rcases mm with m10 | ⟨m10, m13⟩
              all_goals
                go_wp2_with fail
                refine (hU _).mono ?_
                rintro e w2 ⟨b2, rfl⟩
                go_wp2_with fail
                exact bodyPost_ret (v := .tuple #[.string ⟨#[]⟩, .int .i64 ((k : Int) + 1), .bool false]) (by simp [results, Tryd.results30, go_sem]) rfl (tx_no (HT.out.trans HN.out) b2)
            · have m10 : ((s[k].toNat : Int) != 10) = true := n10.trans (by rw [show decide (s[k] = UInt8.ofNat 10) = false from decide_eq_false fun h => hen (.inl h)]; rfl)
              have m13 : ((s[k].toNat : Int) != 13) = true := n13.trans (by rw [show decide (s[k] = UInt8.ofNat 13) = false from decide_eq_false fun h => hen (.inr h)]; rfl)
              have hE : lxEnd s[k] = false := by
                unfold lxEnd
                rw [Bool.or_eq_false_iff, beq_eq_false_iff_ne, beq_eq_false_iff_ne]
                exact ⟨fun h => hen (.inl h), fun h => hen (.inr h)⟩
              by_cases h92 : s[k] = 92
              · have m92 : ((s[k].toNat : Int) == 92) = true := n92.trans (by rw [h92]; decide)
                have HN := Lib.hid (show lxQs (j + 2) (s.data.toList.drop (k + 2)) = lxQn (s.data.toList.drop p) by rw [HS.out, if_neg h34, if_pos h92])
                clear n34 n10 n13 n92 h34 h92 hen hE hU hsu
                go_wp2_with fail
                go_round
                case rel => exact ⟨k + 2, j + 2, by go_num, by omega, by omega, Lib.hid (by have := HK.out; omega), HN⟩
                case measure => simp [intOf]; omega
              · have m92 : ((s[k].toNat : Int) == 92) = false := n92.trans (decide_eq_false h92)
                have HN := Lib.hid (show lxQs (j + 1) (s.data.toList.drop (k + 1)) = lxQn (s.data.toList.drop p) by rw [HS.out, if_neg h34, if_neg h92, if_neg (by rw [hE]; decide)])
                clear n34 n10 n13 n92 h34 h92 hen hE hU hsu
                go_wp2_with fail
                go_round
                case rel => exact ⟨k + 1, j + 1, by go_num, by omega, by omega, Lib.hid (by have := HK.out; omega), HN⟩
                case measure => simp [intOf]; omega
        · have hd1 : decide ((k : Int) < s.size) = false := decide_eq_false (by omega)
          have hd2 : decide ((s.size : Int) ≤ k) = true := decide_eq_true (by omega)
          have HN := Lib.hid (qt_zero (show lxQn (s.data.toList.drop p) = 0 by rw [← HR.out, drop_end s k hil]; rfl))
          go_wp2_with fail
          exact bodyPost_ret (v := .tuple #[.string ⟨#[]⟩, .int .i64 (k : Int), .bool false]) (by simp [results, Tryd.results30, go_sem]) rfl (tx_no (HT.out.trans HN.out) (Below.refl _ _))

set_option maxHeartbeats 1000000 in
theorem refPart_any (b : UInt8) (w : World) : Calls Tryd.prog 28 #[.int .u8 b.toNat] w fun e w' => e = .returned (.bool (nbU b)) ∧ w = w' := by
  have hL := fun W => refLetter_any b.toNat W
  have hD := fun W => refDigit_any b.toNat W
  have HN := Lib.hid (show nbU b = (letB b.toNat || digB b.toNat || b == 46 || b == 43 || b == 45) from rfl)
  have e46 : ((b.toNat : Int) == 46) = (b == 46) := by rw [Bool.eq_iff_iff]; simp [← UInt8.toNat_inj]; omega
  have e43 : ((b.toNat : Int) == 43) = (b == 43) := by rw [Bool.eq_iff_iff]; simp [← UInt8.toNat_inj]; omega
  have e45 : ((b.toNat : Int) == 45) = (b == 45) := by rw [Bool.eq_iff_iff]; simp [← UInt8.toNat_inj]; omega
  generalize letB b.toNat = x1 at *
  generalize digB b.toNat = x2 at *
  generalize (b == 46) = x3 at *
  generalize (b == 43) = x4 at *
  generalize (b == 45) = x5 at *
  cases x1 <;> cases x2 <;> cases x3 <;> cases x4 <;> cases x5
  all_goals
    go_enter Tryd.func28, Tryd.ntmps28
    go_wp2_with (first | ((go_at_call 26); (refine (hL _).mono ?_); rintro e w' ⟨rfl, rfl⟩) | ((go_at_call 27); (refine (hD _).mono ?_); rintro e w' ⟨rfl, rfl⟩))
    go_ret
    exact ⟨ret_bool (by rw [HN.out]; rfl), rfl⟩

end Go.Proofs.YtakmkhkbeabgcaaDoor
