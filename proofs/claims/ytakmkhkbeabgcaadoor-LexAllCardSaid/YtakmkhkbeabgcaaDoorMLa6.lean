/-
  What the document's lex answers of one token: texts, signs.
-/
import Derived.Test.YtakmkhkbeabgcaaDoorMLa3
namespace Go.Proofs.YtakmkhkbeabgcaaDoor
open Go.RowKit

set_option maxHeartbeats 4000000 in
set_option maxRecDepth 100000 in
theorem one_text (s : ByteArray) (i : Nat) (w : World) (hi : i < s.size) (hs : s.size ≤ 90000) (h1 : letU s[i] = false) (h2 : (s[i] == 45) = false) (h3 : digU s[i] = false) (h4 : (s[i] == 34) = true) : Calls Tryd.prog 17 #[.string s, .int .i64 (i : Int)] w (OneIs w i (lxWord (s.data.toList.drop i))) := by
  have hL : ∀ W, Calls Tryd.prog 26 #[.int .u8 (s[i].toNat : Int)] W fun e w' => e = .returned (.bool false) ∧ W = w' := fun W => by have := refLetter_any s[i].toNat W; rw [show letB (s[i].toNat : Int) = false from h1] at this; exact this
  have hD : ∀ W, Calls Tryd.prog 27 #[.int .u8 (s[i].toNat : Int)] W fun e w' => e = .returned (.bool false) ∧ W = w' := fun W => by have := refDigit_any s[i].toNat W; rw [show digB (s[i].toNat : Int) = false from h3] at this; exact this
  have e45 : ((s[i].toNat : Int) == 45) = (s[i] == 45) := by rw [Bool.eq_iff_iff]; simp [← UInt8.toNat_inj]; omega
  have e34 : ((s[i].toNat : Int) == 34) = (s[i] == 34) := by rw [Bool.eq_iff_iff]; simp [← UInt8.toNat_inj]; omega
  rw [h2] at e45
  rw [h4] at e34
  have HW := Lib.hid (show lxWord (s.data.toList.drop i) = (txtP (s.data.toList.drop i)).map fun p => (4, p.1, p.2) from word_text (by rw [drop_cons s i hi, beq_iff_eq.1 h4]))
  have hT := fun W => refTx_any s i W hi hs
  clear h1 h2 h3 h4
  generalize txtP (s.data.toList.drop i) = o at *
  cases o with
  | none =>
    go_enter Tryd.func17, Tryd.ntmps17
    go_wp2_with fail
    refine (hL _).mono ?_
    rintro e w' ⟨rfl, rfl⟩
    go_wp2_with fail
    refine (hD _).mono ?_
    rintro e w' ⟨rfl, rfl⟩
    go_wp2_with fail
    refine (hT _).mono ?_
    rintro e w2 ⟨b2, t, n, rfl⟩
    obtain ⟨q0, q1, q2, qf, hlt, hb⟩ := tokT_cells b2
    have q0f := qf 0
    have q1f := qf 1
    have q2f := qf 2
    clear qf b2
    go_wp2_with fail
    exact bodyPost_ret (v := .tuple #[.agg #[.int .i64 4, .string t, .int .i64 (i : Int)], .int .i64 n, .bool false]) (by simp [results, Tryd.results17, go_sem, q0, q1, q2]) rfl (lone_no HW.out (below_three hb _ _ _))
  | some x =>
    obtain ⟨t, n⟩ := x
    go_enter Tryd.func17, Tryd.ntmps17
    go_wp2_with fail
    refine (hL _).mono ?_
    rintro e w' ⟨rfl, rfl⟩
    go_wp2_with fail
    refine (hD _).mono ?_
    rintro e w' ⟨rfl, rfl⟩
    go_wp2_with fail
    refine (hT _).mono ?_
    rintro e w2 ⟨b2, rfl⟩
    obtain ⟨q0, q1, q2, qf, hlt, hb⟩ := tokT_cells b2
    have q0f := qf 0
    have q1f := qf 1
    have q2f := qf 2
    clear qf b2
    go_wp2_with fail
    exact bodyPost_ret (v := .tuple #[.agg #[.int .i64 4, .string ⟨t.toArray⟩, .int .i64 (i : Int)], .int .i64 ((i + n : Nat) : Int), .bool true]) (by simp [results, Tryd.results17, go_sem, q0, q1, q2]) rfl (lone_yes HW.out rfl (toArray_list t) rfl (below_three hb _ _ _))

set_option maxHeartbeats 4000000 in
set_option maxRecDepth 100000 in
theorem one_sign (s : ByteArray) (i : Nat) (w : World) (hi : i < s.size) (hs : s.size ≤ 90000) (h1 : letU s[i] = false) (h2 : (s[i] == 45) = false) (h3 : digU s[i] = false) (h4 : (s[i] == 34) = false) : Calls Tryd.prog 17 #[.string s, .int .i64 (i : Int)] w (OneIs w i (lxWord (s.data.toList.drop i))) := by
  have hL : ∀ W, Calls Tryd.prog 26 #[.int .u8 (s[i].toNat : Int)] W fun e w' => e = .returned (.bool false) ∧ W = w' := fun W => by have := refLetter_any s[i].toNat W; rw [show letB (s[i].toNat : Int) = false from h1] at this; exact this
  have hD : ∀ W, Calls Tryd.prog 27 #[.int .u8 (s[i].toNat : Int)] W fun e w' => e = .returned (.bool false) ∧ W = w' := fun W => by have := refDigit_any s[i].toNat W; rw [show digB (s[i].toNat : Int) = false from h3] at this; exact this
  have e45 : ((s[i].toNat : Int) == 45) = (s[i] == 45) := by rw [Bool.eq_iff_iff]; simp [← UInt8.toNat_inj]; omega
  have e34 : ((s[i].toNat : Int) == 34) = (s[i] == 34) := by rw [Bool.eq_iff_iff]; simp [← UInt8.toNat_inj]; omega
  rw [h2] at e45
  rw [h4] at e34
  have HD := Lib.hid (drop_cons s i hi)
  have HW := Lib.hid (word_sign HD.out h1 (by rw [h2, h3]; rfl) h4)
  have q1 : IntKind.i64.wrap ((s.size : Int) - i) = (s.size : Int) - i := IntWalk.i64_in _ (by omega)
  clear h1 h2 h3 h4
  cases hdot : Lib.hasPrefix (s.data.toList.drop i) lxDots with
  | true =>
    have hl3 : i + 3 ≤ s.size := by
      have h := (List.isPrefixOf_iff_prefix.1 hdot).length_le
      rw [len_drop] at h
      have : lxDots.length = 3 := rfl
      omega
    have hx : ((s.extract i (i + 3)).toList == [46, 46, 46]) = true := ext_is s i 3 lxDots rfl true hdot
    have hge : decide ((3 : Int) ≤ (s.size : Int) - i) = true := decide_eq_true (by omega)
    have hsl := slice_two' s i (i + 3) (by omega) hl3 ((i : Int) + 3) (by omega)
    have HO := Lib.hid (show lxWord (s.data.toList.drop i) = some (5, lxDots, 3) by rw [HW.out]; unfold lxSign; rw [if_pos hdot])
    clear hdot
    generalize s.extract i (i + 3) = ex at *
    go_enter Tryd.func17, Tryd.ntmps17
    go_wp2_with fail
    refine (hL _).mono ?_
    rintro e w' ⟨rfl, rfl⟩
    go_wp2_with fail
    refine (hD _).mono ?_
    rintro e w' ⟨rfl, rfl⟩
    go_wp2_with fail
    exact bodyPost_ret (v := .tuple #[.agg #[.int .i64 5, .string ⟨#[46, 46, 46]⟩, .int .i64 (i : Int)], .int .i64 ((i : Int) + 3), .bool true]) (by simp [results, Tryd.results17, go_sem]) rfl (lone_yes HO.out rfl rfl (by omega) ((Below.refl _ w).alloc (Nat.le_refl _) _))
  | false =>
    have hx : ((s.extract i (i + 3)).toList == [46, 46, 46]) = false := ext_is s i 3 lxDots rfl false hdot
    have hk3 : decide ((3 : Int) ≤ (s.size : Int) - i) = false ∨ (decide ((3 : Int) ≤ (s.size : Int) - i) = true ∧ ∀ W, (Instr.slice 9 (.string s) (some (.int .i64 i)) (some (.int .i64 ((i : Int) + 3))) none).run Tryd.prog W = .ok (.string (s.extract i (i + 3))) W) := by
      by_cases g3 : i + 3 ≤ s.size
      · exact .inr ⟨decide_eq_true (by omega), slice_two' s i (i + 3) (by omega) g3 ((i : Int) + 3) (by omega)⟩
      · exact .inl (decide_eq_false (by omega))
    have HO := Lib.hid (show lxWord (s.data.toList.drop i) = if signsS.data.toList.contains s[i] then some (5, [s[i]], 1) else none by
      rw [HW.out]
      unfold lxSign
      rw [if_neg (by rw [hdot]; decide), HD.out])
    have hs1 := slice_two' s i (i + 1) (by omega) (by omega) ((i : Int) + 1) (by omega)
    have HE := Lib.hid (show (s.extract i (i + 1)).data.toList = [s[i]] by rw [lext_list, Nat.add_sub_cancel_left, HD.out]; rfl)
    clear hdot
    generalize s.extract i (i + 3) = ex at *
    generalize s.extract i (i + 1) = e1 at *
    rcases hk3 with hge | ⟨hge, hsl⟩
    all_goals
      go_enter Tryd.func17, Tryd.ntmps17
      go_wp2_with fail
      refine (hL _).mono ?_
      rintro e w' ⟨rfl, rfl⟩
      go_wp2_with fail
      refine (hD _).mono ?_
      rintro e w' ⟨rfl, rfl⟩
      go_wp2_with fail
      go_loop [14] (fun v14 => ∃ m : Nat, v14 = .int .i64 (m : Nat) ∧ m ≤ 13 ∧ Hid (signsS.data.toList.contains s[i] = (signsS.data.toList.drop m).contains s[i])) (fun v14 => 13 - (intOf v14).toNat)
      case atStart => exact ⟨0, rfl, by omega, Lib.hid rfl⟩
      case round =>
        obtain ⟨m, rfl, hm, HM⟩ := hrel
        by_cases hm13 : m < 13
        · have hd1 : decide ((m : Int) < 13) = true := decide_eq_true (by omega)
          have hmm : m = 0 ∨ m = 1 ∨ m = 2 ∨ m = 3 ∨ m = 4 ∨ m = 5 ∨ m = 6 ∨ m = 7 ∨ m = 8 ∨ m = 9 ∨ m = 10 ∨ m = 11 ∨ m = 12 := by omega
          have hsz : signsS.size = 13 := rfl
          have hms : m < signsS.size := by omega
          have HC := Lib.hid (show (signsS.data.toList.drop m).contains s[i] = (s[i] == signsS[m] || (signsS.data.toList.drop (m + 1)).contains s[i]) by rw [drop_cons signsS m hms, List.contains_cons])
          cases hq : ((signsS[m].toNat : Int) == (s[i].toNat : Int)) with
          | true =>
            have HQ := Lib.hid (show lxWord (s.data.toList.drop i) = some (5, [s[i]], 1) by
              have he : (s[i] == signsS[m]) = true := by rw [beq_iff_eq, ← UInt8.toNat_inj]; rw [beq_iff_eq] at hq; omega
              rw [HO.out, HM.out, HC.out, he, Bool.true_or]; rfl)
            unfold signsS at hq
            go_wp2_with fail
            exact bodyPost_ret (v := .tuple #[.agg #[.int .i64 5, .string e1, .int .i64 (i : Int)], .int .i64 ((i : Int) + 1), .bool true]) (by simp [results, Tryd.results17, go_sem]) rfl (lone_yes HQ.out rfl HE.out (by omega) ((Below.refl _ w).alloc (Nat.le_refl _) _))
          | false =>
            have HQ := Lib.hid (show signsS.data.toList.contains s[i] = (signsS.data.toList.drop (m + 1)).contains s[i] by
              have he : (s[i] == signsS[m]) = false := by rw [beq_eq_false_iff_ne, ne_eq, ← UInt8.toNat_inj]; rw [beq_eq_false_iff_ne] at hq; omega
              rw [HM.out, HC.out, he, Bool.false_or])
            unfold signsS at hq
            go_wp2_with fail
            go_round
            case rel => exact ⟨m + 1, by go_num, by omega, HQ⟩
            case measure => simp [intOf]; omega
        · have hd1 : decide ((m : Int) < 13) = false := decide_eq_false (by omega)
          have HQ := Lib.hid (show lxWord (s.data.toList.drop i) = none by
            obtain rfl : m = 13 := by omega
            rw [HO.out, HM.out]
            rfl)
          go_wp2_with fail
          exact bodyPost_ret (v := .tuple #[.agg #[.int .i64 0, .string ⟨#[]⟩, .int .i64 0], .int .i64 (i : Int), .bool false]) (by simp [results, Tryd.results17, go_sem]) rfl (lone_no HQ.out ((Below.refl _ w).alloc (Nat.le_refl _) _))

theorem refOne_any (s : ByteArray) (i : Nat) (w : World) (hi : i < s.size) (hs : s.size ≤ 90000) : Calls Tryd.prog 17 #[.string s, .int .i64 (i : Int)] w (OneIs w i (lxWord (s.data.toList.drop i))) := by
  cases h1 : letU s[i] with
  | true => exact one_name s i w hi hs h1
  | false =>
    cases h2 : (s[i] == 45) with
    | true => exact one_num s i w hi hs h1 (.inl h2)
    | false =>
      cases h3 : digU s[i] with
      | true => exact one_num s i w hi hs h1 (.inr ⟨h2, h3⟩)
      | false =>
        cases h4 : (s[i] == 34) with
        | true => exact one_text s i w hi hs h1 h2 h3 h4
        | false => exact one_sign s i w hi hs h1 h2 h3 h4

end Go.Proofs.YtakmkhkbeabgcaaDoor

/-
  What the document's lex answers of a whole text.
-/
namespace Go.Proofs.YtakmkhkbeabgcaaDoor
open Go.RowKit

/-- What the document's All answers: the tokens lie in a row of its own. -/
def OLexIs (w : World) (r : List Tk × Nat × Nat) (e : Ending) (w' : World) : Prop :=
  ∃ v, e = .returned (.tuple #[v, .int .i64 r.2.1, .int .i64 r.2.2]) ∧ w'.ownsRow w.heap.size 36 3 v r.1.length (tkCells r.1) ∧ Below w.heap.size w w'
theorem olex_no {w w' : World} {r : List Tk × Nat × Nat} {a c : Nat} (h : r = ([], a, c)) (hb : Below w.heap.size w w') : OLexIs w r (.returned (.tuple #[.slice none 0 0, .int .i64 a, .int .i64 c])) w' := by
  subst h
  exact ⟨_, rfl, World.ownsRow_nil _ _ _ _, hb⟩
theorem infoT : ∃ i, Tryd.prog.info? 36 = some i ∧ i.zero = some (.agg #[.int .i64 0, .string ⟨#[]⟩, .int .i64 0]) ∧ i.size = 3 ∧ i.bytes = 32 :=
  info_parts (by kernel_rfl)
def OLexRel (s : ByteArray) (w : World) (v5 v6 : Value) (wr : World) : Prop :=
  ∃ (i f : Nat) (ts : List Tk), v6 = .int .i64 i ∧ i ≤ s.size ∧ s.size < f + i ∧ ts.length ≤ i ∧ wr.ownsRow w.heap.size 36 3 v5 ts.length (tkCells ts) ∧ Below w.heap.size w wr ∧ lxGo f i (s.data.toList.drop i) ts = lexP s.data.toList
def noEnd (b : UInt8) : Bool := !lxEnd b
theorem lxRem_tw (l : List UInt8) : lxRem l = (l.takeWhile noEnd).length := rfl

set_option maxHeartbeats 4000000 in
set_option maxRecDepth 100000 in
theorem refAll_any (s : ByteArray) (w : World) (hs : s.size ≤ 1000000000) : Calls Tryd.prog 11 #[.string s] w (OLexIs w (lexP s.data.toList)) := by
  obtain ⟨i0, hi, hz0, hz1, hz2⟩ := infoT
  have HI0 := Lib.hid hi
  have HZ0 := Lib.hid hz0
  have HZ1 := Lib.hid hz1
  have HZ2 := Lib.hid hz2
  clear hi hz0 hz1 hz2
  by_cases hbig : 8000 < s.size
  · have HY := Lib.hid (show lexP s.data.toList = ([], 0, 3) by unfold lexP; rw [if_pos (show 8000 < s.data.toList.length from hbig)])
    have hd : decide ((8000 : Int) < (s.size : Int)) = true := decide_eq_true (by omega)
    go_enter Tryd.func11, Tryd.ntmps11
    go_wp2_with fail
    refine bodyPost_ret (v := .tuple #[.slice none 0 0, .int .i64 (0 : Nat), .int .i64 (3 : Nat)]) (by simp [results, Tryd.results11, go_sem]) rfl (olex_no HY.out (Below.refl _ _))
  · have hd : decide ((8000 : Int) < (s.size : Int)) = false := decide_eq_false (by omega)
    have HP := Lib.hid (show lxGo (s.size + 1) 0 s.data.toList [] = lexP s.data.toList by unfold lexP; rw [if_neg (show ¬ 8000 < s.data.toList.length from hbig)]; rfl)
    go_enter Tryd.func11, Tryd.ntmps11
    go_wp2_with fail
    go_loopw [5, 6, 7, 8, 9] (fun v5 v6 _ _ _ wr => OLexRel s w v5 v6 wr) (fun _ v6 _ _ _ _ => s.size - (intOf v6).toNat)
    case atStart => exact ⟨0, s.size + 1, [], rfl, Nat.zero_le _, by omega, by simp, World.ownsRow_nil _ _ _ _, Below.refl _ _, HP.out⟩
    case round =>
      obtain ⟨i, f, ts, rfl, his, hf, hts, hown, hbw, hres⟩ := hrel
      have HR := Lib.hid hres
      have hsz := hbw.size
      clear hres HP
      by_cases hil : i < s.size
      · have hd1 : decide ((i : Int) < s.size) = true := decide_eq_true (by omega)
        obtain ⟨f, rfl⟩ : ∃ f', f = f' + 1 := ⟨f - 1, by omega⟩
        have HD := Lib.hid (drop_cons s i hil)
        have hq : ∀ n : Nat, n < 256 → ((s[i].toNat : Int) == (n : Int)) = (s[i] == UInt8.ofNat n) := fun n hn => by
          rw [Bool.eq_iff_iff, beq_iff_eq, beq_iff_eq, ← UInt8.toNat_inj, UInt8.toNat_ofNat_of_lt' (by simpa using hn)]
          omega
        have e32 : ((s[i].toNat : Int) == 32) = (s[i] == 32) := hq 32 (by decide)
        have e9 : ((s[i].toNat : Int) == 9) = (s[i] == 9) := hq 9 (by decide)
        have e10 : ((s[i].toNat : Int) == 10) = (s[i] == 10) := hq 10 (by decide)
        have e13 : ((s[i].toNat : Int) == 13) = (s[i] == 13) := hq 13 (by decide)
        have e44 : ((s[i].toNat : Int) == 44) = (s[i] == 44) := hq 44 (by decide)
        have e35 : ((s[i].toNat : Int) == 35) = (s[i] == 35) := hq 35 (by decide)
        clear hq
        have hB : lxBlank s[i] = (((s[i].toNat : Int) == 32) || ((s[i].toNat : Int) == 9) || ((s[i].toNat : Int) == 10) || ((s[i].toNat : Int) == 13) || ((s[i].toNat : Int) == 44)) := by rw [e32, e9, e10, e13, e44]; rfl
        clear e32 e9 e10 e13 e44
        cases hbl : lxBlank s[i] with
        | true =>
          have HY := Lib.hid (show lxGo f (i + 1) (s.data.toList.drop (i + 1)) ts = lexP s.data.toList by rw [← HR.out, HD.out, lxGo_blank _ _ _ _ _ hbl])
          rw [hbl] at hB
          have hk : ((s[i].toNat : Int) == 32) = true ∨ (((s[i].toNat : Int) == 32) = false ∧ ((s[i].toNat : Int) == 9) = true) ∨ (((s[i].toNat : Int) == 32) = false ∧ ((s[i].toNat : Int) == 9) = false ∧ ((s[i].toNat : Int) == 10) = true) ∨ (((s[i].toNat : Int) == 32) = false ∧ ((s[i].toNat : Int) == 9) = false ∧ ((s[i].toNat : Int) == 10) = false ∧ ((s[i].toNat : Int) == 13) = true) ∨ (((s[i].toNat : Int) == 32) = false ∧ ((s[i].toNat : Int) == 9) = false ∧ ((s[i].toNat : Int) == 10) = false ∧ ((s[i].toNat : Int) == 13) = false ∧ ((s[i].toNat : Int) == 44) = true) := by
            revert hB
            cases ((s[i].toNat : Int) == 32) <;> cases ((s[i].toNat : Int) == 9) <;> cases ((s[i].toNat : Int) == 10) <;> cases ((s[i].toNat : Int) == 13) <;> cases ((s[i].toNat : Int) == 44) <;> decide
          clear hbl hB e35
          rcases hk with k1 | ⟨k1, k2⟩ | ⟨k1, k2, k3⟩ | ⟨k1, k2, k3, k4⟩ | ⟨k1, k2, k3, k4, k5⟩
          all_goals
            go_wp2_with fail
            go_roundw
            case rel => exact ⟨i + 1, f, ts, by go_num, by omega, by omega, by omega, hown, hbw, HY.out⟩
            case measure => simp [intOf]; omega
        | false =>
          have HBL := Lib.hid hbl
          rw [hbl] at hB
          have hB' := hB.symm
          simp only [Bool.or_eq_false_iff] at hB'
          obtain ⟨⟨⟨⟨k1, k2⟩, k3⟩, k4⟩, k5⟩ := hB'
          clear hbl hB
          cases h35 : (s[i] == 35) with
          | true =>
            rw [h35] at e35
            have HN := Lib.hid (show lxGo f (i + lxRem (s.data.toList.drop i)) (s.data.toList.drop (i + lxRem (s.data.toList.drop i))) ts = lexP s.data.toList by
              rw [← HR.out, ← List.drop_drop]
              generalize hdd : s.data.toList.drop i = d
              rw [HD.out] at hdd
              subst hdd
              rw [lxGo_rem _ _ _ _ _ HBL.out h35])
            have HP0 := Lib.hid (show 0 < lxRem (s.data.toList.drop i) by rw [HD.out]; exact lxRem_pos h35)
            clear h35
            go_wp2_with fail
            go_loop [6] (fun v6 => ∃ k j : Nat, v6 = .int .i64 (k : Nat) ∧ i ≤ k ∧ k ≤ s.size ∧ Hid (k = i + j) ∧ Hid (((s.data.toList.drop i).takeWhile noEnd).length = j + ((s.data.toList.drop k).takeWhile noEnd).length)) (fun v6 => s.size - (intOf v6).toNat)
            case atStart => exact ⟨i, 0, rfl, Nat.le_refl _, by omega, Lib.hid rfl, Lib.hid (Nat.zero_add _).symm⟩
            case round =>
              obtain ⟨k, j, rfl, hk1, hk2, HK, HJ⟩ := hrel
              clear k1 k2 k3 k4 k5 e35 hd1
              by_cases hkl : k < s.size
              · have hd1 : decide ((k : Int) < s.size) = true := decide_eq_true (by omega)
                have hq : ∀ n : Nat, n < 256 → ((s[k].toNat : Int) != (n : Int)) = (s[k] != UInt8.ofNat n) := fun n hn => by
                  rw [Bool.eq_iff_iff, bne_iff_ne, bne_iff_ne, ne_eq, ne_eq, ← UInt8.toNat_inj, UInt8.toNat_ofNat_of_lt' (by simpa using hn)]
                  omega
                have hE : noEnd s[k] = (((s[k].toNat : Int) != 10) && ((s[k].toNat : Int) != 13)) := by
                  rw [show ((s[k].toNat : Int) != 10) = _ from hq 10 (by decide), show ((s[k].toNat : Int) != 13) = _ from hq 13 (by decide)]
                  unfold noEnd lxEnd
                  rw [Bool.not_or]
                  rfl
                clear hq
                cases he : noEnd s[k] with
                | true =>
                  have HX := Lib.hid (tw_next noEnd hkl he)
                  rw [he] at hE
                  have hE' := hE.symm
                  rw [Bool.and_eq_true] at hE'
                  obtain ⟨m1, m2⟩ := hE'
                  clear he hE
                  go_wp2_with fail
                  go_round
                  case rel => exact ⟨k + 1, j + 1, by go_num, by omega, by omega, Lib.hid (by have := HK.out; omega), Lib.hid (by rw [HJ.out, HX.out]; omega)⟩
                  case measure => simp [intOf]; omega
                | false =>
                  have HX := Lib.hid (show lxRem (s.data.toList.drop i) = j by rw [lxRem_tw, HJ.out, tw_stop noEnd hkl he]; rfl)
                  rw [he] at hE
                  have mm : ((s[k].toNat : Int) != 10) = false ∨ (((s[k].toNat : Int) != 10) = true ∧ ((s[k].toNat : Int) != 13) = false) := by
                    revert hE
                    cases ((s[k].toNat : Int) != 10) <;> cases ((s[k].toNat : Int) != 13) <;> decide
                  clear he hE
                  have hjj : i < k := by have h1 := HP0.out; rw [HX.out] at h1; have := HK.out; omega
                  rcases mm with m1 | ⟨m1, m2⟩
                  all_goals
                    go_wp2_with fail
                    go_roundw
                    case rel => exact ⟨k, f, ts, rfl, by omega, by omega, by omega, hown, hbw, by have h := HN.out; rw [HX.out, ← HK.out] at h; exact h⟩
                    case measure => simp [intOf]; omega
              · have hd1 : decide ((k : Int) < s.size) = false := decide_eq_false (by omega)
                have HX := Lib.hid (show lxRem (s.data.toList.drop i) = j by rw [lxRem_tw, HJ.out, tw_end noEnd hkl]; rfl)
                have hjj : i < k := by have h1 := HP0.out; rw [HX.out] at h1; have := HK.out; omega
                go_wp2_with fail
                go_roundw
                case rel => exact ⟨k, f, ts, rfl, by omega, by omega, by omega, hown, hbw, by have h := HN.out; rw [HX.out, ← HK.out] at h; exact h⟩
                case measure => simp [intOf]; omega
          | false =>
            rw [h35] at e35
            have hW := fun W => refOne_any s i W hil (by omega)
            cases hw : lxWord (s.data.toList.drop i) with
            | none =>
              rw [hw] at hW
              have HY := Lib.hid (show lexP s.data.toList = ([], i, 2) by
                rw [HD.out] at hw
                rw [← HR.out, HD.out, lxGo_none _ _ _ _ _ HBL.out h35 hw])
              clear h35 hw
              go_wp2_with fail
              refine (hW _).mono ?_
              rintro e w2 ⟨b2, ka, ta, ca, na, rfl⟩
              go_wp2_with fail
              refine bodyPost_ret (v := .tuple #[.slice none 0 0, .int .i64 (i : Nat), .int .i64 (2 : Nat)]) (by simp [results, Tryd.results11, go_sem]) rfl (olex_no HY.out ((hbw.trans (b2.mono hsz)).alloc (by have := b2.size; omega) _))
            | some o =>
              obtain ⟨k, t, n⟩ := o
              rw [hw] at hW
              have hle := lxWord_le hw
              rw [len_drop] at hle
              have HY := Lib.hid (show lxGo f (i + n) (s.data.toList.drop (i + n)) (ts ++ [⟨k, t, i⟩]) = lexP s.data.toList by
                rw [← HR.out, ← List.drop_drop]
                exact (lxGo_word HD.out HBL.out h35 hw).symm)
              clear h35 hw
              go_wp2_with fail
              refine (hW _).mono ?_
              rintro e w2 ⟨b2, rfl⟩
              have hown2 := own_below hown b2
              have hb2 := hbw.trans (b2.mono hsz)
              have hz2 : w.heap.size ≤ w2.heap.size := hb2.size
              go_wp2_with (at_builtin; refine wpList_append_own _ rfl _ _ 27 rfl w.heap.size 36 i0 (.agg #[.int .i64 0, .string ⟨#[]⟩, .int .i64 0]) 3 32 Tryd.underlying27 HI0.out HZ0.out HZ1.out HZ2.out rfl (by decide) _ _ _ rfl ((hown2.alloc _).alloc _) ⟨w2.heap.size + 1, 0, none⟩ 1 1 [.int .i64 k, .string ⟨t.toArray⟩, .int .i64 i] rfl rfl ?c1 ?c2 ?c3 ?c4 ?c5 ?_)
              case c1 => exact fun j u hj => by have := cell_three_new (w2.alloc (.cells #[.int .i64 k, .string ⟨t.toArray⟩, .int .i64 i] 36)) (.int .i64 k) (.string ⟨t.toArray⟩) (.int .i64 i) 36 j u hj; simpa using this
              case c2 => intro u hu; simp at hu; rcases hu with rfl | rfl | rfl <;> rfl
              case c3 => unfold maxLen; omega
              case c4 => omega
              case c5 => simp; omega
              intro v' w4 hown' hgrow _
              have hbw4 : Below w.heap.size w w4 := ((hb2.alloc (by omega) _).alloc (by simp; omega) _).grown hgrow (by simp; omega) (fun k hk => by have := (hown2.lt k hk).1; omega)
              have HOWN := Lib.hid hown'
              clear hown' hgrow
              go_wp2_with fail
              go_roundw
              case rel =>
                refine ⟨i + n, f, ts ++ [⟨k, t, i⟩], by go_num, by omega, by omega, by simp; omega, ?_, hbw4, HY.out⟩
                rw [tkCells_snoc, List.length_append]
                exact HOWN.out
              case measure => simp [intOf]; omega
      · have hd1 : decide ((i : Int) < s.size) = false := decide_eq_false (by omega)
        have HY := Lib.hid (show lexP s.data.toList = (ts, 0, 0) by rw [← HR.out, drop_end s i hil, lxGo_nil])
        go_wp2_with fail
        refine bodyPost_ret (v := .tuple #[_, .int .i64 (0 : Nat), .int .i64 (0 : Nat)]) (by simp [results, Tryd.results11, go_sem]; rfl) rfl ?_
        rw [HY.out]
        exact ⟨_, rfl, hown, hbw⟩

end Go.Proofs.YtakmkhkbeabgcaaDoor

/-
  LexAll: its walk.
-/
namespace Go.Proofs.YtakmkhkbeabgcaaDoor
open Go.RowKit

theorem tkCells_at : ∀ (ts : List Tk) (j : Nat) (t : Tk), ts[j]? = some t → (tkCells ts)[j * 3]? = some (.int .i64 t.k) ∧ (tkCells ts)[j * 3 + 1]? = some (.string ⟨t.s.toArray⟩) ∧ (tkCells ts)[j * 3 + 2]? = some (.int .i64 t.at_)
  | [], _, _, h => by simp at h
  | a :: ts, 0, t, h => by
    simp only [List.getElem?_cons_zero, Option.some.injEq] at h
    subst h
    exact ⟨rfl, rfl, rfl⟩
  | a :: ts, j + 1, t, h => by
    have := tkCells_at ts j t (by simpa using h)
    have e : tkCells (a :: ts) = [.int .i64 a.k, .string ⟨a.s.toArray⟩, .int .i64 a.at_] ++ tkCells ts := rfl
    rw [e, show (j + 1) * 3 = 3 + j * 3 by omega]
    refine ⟨?_, ?_, ?_⟩
    · rw [List.getElem?_append_right (by simp)]; simpa using this.1
    · rw [List.getElem?_append_right (by simp; omega)]
      rw [show 3 + j * 3 + 1 - [Value.int .i64 a.k, .string ⟨a.s.toArray⟩, .int .i64 a.at_].length = j * 3 + 1 by simp; omega]
      exact this.2.1
    · rw [List.getElem?_append_right (by simp; omega)]
      rw [show 3 + j * 3 + 2 - [Value.int .i64 a.k, .string ⟨a.s.toArray⟩, .int .i64 a.at_].length = j * 3 + 2 by simp; omega]
      exact this.2.2
/-- A row of tokens, as a call finds it. -/
def TkAt (w : World) (a : Option Addr) (ts : List Tk) : Prop := 0 < ts.length → ∃ g, a = some ⟨g, 0, none⟩ ∧ ∀ j u, (tkCells ts)[j]? = some u → w.cell? ⟨g, j, none⟩ = some u
theorem tkAt_of {w : World} {B : Nat} {T : TypeId} {v : Value} {ts : List Tk} (h : w.ownsRow B T 3 v ts.length (tkCells ts)) : ∃ a cap, v = .slice a ts.length cap ∧ ts.length ≤ cap ∧ TkAt w a ts ∧ ∀ w', Below w.heap.size w w' → TkAt w' a ts := by
  rcases h.2 with ⟨hv, h0⟩ | ⟨g, cap, cur, hv, hB, hg, hcap, _⟩
  · exact ⟨none, 0, by rw [hv, h0], by omega, fun h' => absurd h' (by omega), fun _ _ h' => absurd h' (by omega)⟩
  · refine ⟨some ⟨g, 0, none⟩, cap, hv, hcap, fun _ => ⟨g, rfl, fun j u hj => ?_⟩, fun w' hb _ => ⟨g, rfl, fun j u hj => ?_⟩⟩
    · have := h.cells (g := g) (by rw [hv]; rfl) j u hj
      have e : (⟨g, 0, none⟩ : Addr).add j = ⟨g, j, none⟩ := by cases j <;> simp [Addr.add]
      rwa [e] at this
    · have := (own_below h hb).cells (g := g) (by rw [hv]; rfl) j u hj
      have e : (⟨g, 0, none⟩ : Addr).add j = ⟨g, j, none⟩ := by cases j <;> simp [Addr.add]
      rwa [e] at this

theorem lxGo_len : ∀ (f a : Nat) (l : List UInt8) (acc : List Tk), (lxGo f a l acc).1.length ≤ acc.length + l.length
  | 0, _, _, _ => Nat.le_add_right _ _
  | _ + 1, _, [], _ => Nat.le_add_right _ _
  | f + 1, a, b :: r, acc => by
    cases hb : lxBlank b with
    | true =>
      rw [lxGo_blank _ _ _ _ _ hb]
      have := lxGo_len f (a + 1) r acc
      rw [List.length_cons]
      omega
    | false =>
      cases h35 : (b == 35) with
      | true =>
        rw [lxGo_rem _ _ _ _ _ hb h35]
        have := lxGo_len f (a + lxRem (b :: r)) ((b :: r).drop (lxRem (b :: r))) acc
        rw [List.length_drop] at this
        omega
      | false =>
        cases hw : lxWord (b :: r) with
        | none =>
          rw [lxGo_none _ _ _ _ _ hb h35 hw]
          exact Nat.zero_le _
        | some o =>
          obtain ⟨k, s, m⟩ := o
          rw [lxGo_some _ _ _ _ _ hb h35 hw]
          have hp := lxWord_le hw
          have := lxGo_len f (a + m) ((b :: r).drop m) (acc ++ [⟨k, s, a⟩])
          rw [List.length_drop, List.length_append, List.length_singleton] at this
          omega
theorem lexP_len (l : List UInt8) : (lexP l).1.length ≤ 8000 := by
  unfold lexP
  split
  · exact Nat.zero_le _
  · have := lxGo_len (l.length + 1) 0 l []
    simp only [List.length_nil] at this
    omega

set_option maxHeartbeats 4000000 in
set_option maxRecDepth 100000 in
theorem lsame_true (ts : List Tk) (a b : Option Addr) (ca cb : Nat) (w : World) (hn : ts.length ≤ 9000) (hA : TkAt w a ts) (hB : TkAt w b ts) : Calls Tryd.prog 12 #[.slice a ts.length ca, .slice b ts.length cb] w (TrueBelow w) := by
  have HA := Lib.hid hA
  have HB := Lib.hid hB
  obtain ⟨n, hnn⟩ : ∃ n, n = ts.length := ⟨_, rfl⟩
  rw [← hnn] at hn ⊢
  have HN := Lib.hid hnn
  clear hA hB hnn
  go_enter Tryd.func12, Tryd.ntmps12
  go_wp2_with fail
  go_loopw [5] (fun v5 wr => ∃ j : Nat, v5 = .int .i64 (j : Nat) ∧ j ≤ n ∧ Below w.heap.size w wr ∧ Hid (TkAt wr a ts) ∧ Hid (TkAt wr b ts)) (fun v5 _ => n - (intOf v5).toNat)
  case atStart => exact ⟨0, rfl, Nat.zero_le _, Below.refl _ _, HA, HB⟩
  case round =>
    obtain ⟨j, rfl, hj, hbw, HA, HB⟩ := hrel
    by_cases hlt : j < n
    · have hd1 : decide ((j : Int) < n) = true := decide_eq_true (by omega)
      have hd2 : decide (j < n) = true := decide_eq_true hlt
      have HA2 := HA
      have HB2 := HB
      obtain ⟨ga, rfl, cA⟩ := HA.out (by have := HN.out; omega)
      obtain ⟨gb, rfl, cB⟩ := HB.out (by have := HN.out; omega)
      have hj' : j < ts.length := by have := HN.out; omega
      obtain ⟨k0, k1, k2⟩ := tkCells_at ts j ts[j] (List.getElem?_eq_getElem hj')
      have a0 := cA _ _ k0
      have a1 := cA _ _ k1
      have a2 := cA _ _ k2
      have b0 := cB _ _ k0
      have b1 := cB _ _ k1
      have b2 := cB _ _ k2
      clear cA cB k0 k1 k2
      generalize ts[j].k = x0 at *
      generalize (⟨(ts[j].s).toArray⟩ : ByteArray) = x1 at *
      generalize ts[j].at_ = x2 at *
      go_upto_region 6 with fail
      go_quiet (fail)
      go_wp2_with fail
      go_roundw
      case rel => exact ⟨j + 1, by go_num, by omega, ⟨hbw.os, hbw.tape, hbw.output, hbw.size, hbw.block⟩, Lib.hid HA2.out, Lib.hid HB2.out⟩
      case measure => simp [intOf]; omega
    · have hd1 : decide ((j : Int) < n) = false := decide_eq_false (by omega)
      have hd2 : decide (j < n) = false := decide_eq_false hlt
      go_wp2_with fail
      go_ret
      exact ⟨rfl, hbw⟩

set_option maxHeartbeats 2000000 in
set_option maxRecDepth 100000 in
theorem lexAll_walk (s : ByteArray) (w : World) : Calls Tryd.prog 3 #[.string s] w (TrueBelow w) := by
  by_cases hbig : 9000 < s.size
  · have hd : decide ((9000 : Int) < s.size) = true := decide_eq_true (by omega)
    go_enter Tryd.func3, Tryd.ntmps3
    go_wp2_with fail
    refine (lxAwake _).mono ?_
    rintro e w1 ⟨rfl, b1⟩
    go_wp2_with fail
    go_ret
    exact ⟨rfl, b1⟩
  · have hd : decide ((9000 : Int) < s.size) = false := decide_eq_false (by omega)
    have hA := fun W => lexAll_any s W (by omega)
    have hB := fun W => refAll_any s W (by omega)
    have HL := Lib.hid (lexP_len s.data.toList)
    generalize lexP s.data.toList = r at *
    obtain ⟨ts, pa, pc⟩ := r
    have hl : ts.length ≤ 8000 := HL.out
    go_enter Tryd.func3, Tryd.ntmps3
    go_wp2_with fail
    refine (hA _).mono ?_
    rintro e w1 ⟨v1, rfl, o1, b1⟩
    obtain ⟨a1, c1, rfl, hc1, _, hT1⟩ := tkAt_of o1
    go_wp2_with fail
    refine (hB _).mono ?_
    rintro e w2 ⟨v2, rfl, o2, b2⟩
    obtain ⟨a2, c2, rfl, hc2, hT2, _⟩ := tkAt_of o2
    have hS := lsame_true ts a1 a2 c1 c2 w2 (by omega) (hT1 w2 b2) hT2
    clear o1 o2 hT1 hT2 hA hB
    go_wp2_with fail
    refine hS.mono ?_
    rintro e w3 ⟨rfl, b3⟩
    go_wp2_with fail
    refine (lxAwake _).mono ?_
    rintro e w4 ⟨rfl, b4⟩
    go_wp2_with fail
    go_ret
    have h1 := b1.size
    have h2 := b2.size
    have h3 := b3.size
    exact ⟨rfl, ((b1.trans (b2.mono (by omega))).trans (b3.mono (by omega))).trans (b4.mono (by omega))⟩

end Go.Proofs.YtakmkhkbeabgcaaDoor
