/-
  What refectoryref01.Unquote answers.
-/
import Derived.Test.YtakmkhkbeabgcaaDoorRef6
namespace Go.Proofs.YtakmkhkbeabgcaaDoor
open Go.RowKit
open Go.Lib (encodeRune)

theorem enc_len (v : Int) : (encodeRune v).length ≤ 4 := by
  have hl := Lib.encodeRuneZ_length v
  simp [encodeRune]
  omega

theorem oneL_facts (l b : List UInt8) (n : Nat) (h : oneL l = some (b, n)) : b.length ≤ 4 ∧ 1 ≤ n ∧ n ≤ 11 := by
  cases l with
  | nil => cases h
  | cons c r =>
    rw [oneL_cons] at h
    split at h
    · cases hh : hexL r with
      | none => rw [hh] at h; cases h
      | some v =>
        rw [hh, Option.bind_some] at h
        split at h
        · split at h
          · cases hg : hexL (r.drop 6) with
            | none => rw [hg] at h; cases h
            | some w =>
              rw [hg, Option.bind_some] at h
              split at h
              · injection h with h
                injection h with h1 h2
                subst h1; subst h2
                exact ⟨enc_len _, by omega, by omega⟩
              · cases h
          · cases h
        · split at h
          · cases h
          · injection h with h
            injection h with h1 h2
            subst h1; subst h2
            exact ⟨enc_len _, by omega, by omega⟩
    · split at h
      · cases h
      · injection h with h
        injection h with h1 h2
        subst h1; subst h2
        exact ⟨by simp, by omega, by omega⟩

theorem oneAt_none (s : ByteArray) (x : Int) (n : Nat) (hx : x = n) (ho : oneL (s.data.toList.drop n) = none) (w : World) (hs : s.size ≤ 1000000000) :
    Calls Tryd.prog 74 #[.string s, .int .i64 x] w fun e w' => e = .returned (.tuple #[.string ⟨#[]⟩, .int .i64 0]) ∧ Below w.heap.size w w' := by
  subst hx
  refine (one_any s n w hs).mono ?_
  rintro e w' ⟨hb, rfl⟩
  rw [ho]
  exact ⟨rfl, hb⟩
theorem oneAt_some (s : ByteArray) (x : Int) (n m : Nat) (b : List UInt8) (T : ByteArray) (hx : x = n) (ho : oneL (s.data.toList.drop n) = some (b, m)) (hT : T = ⟨b.toArray⟩) (w : World) (hs : s.size ≤ 1000000000) :
    Calls Tryd.prog 74 #[.string s, .int .i64 x] w fun e w' => e = .returned (.tuple #[.string T, .int .i64 m]) ∧ Below w.heap.size w w' := by
  subst hx
  subst hT
  refine (one_any s n w hs).mono ?_
  rintro e w' ⟨hb, rfl⟩
  rw [ho]
  exact ⟨rfl, hb⟩

theorem unqB_no (l : List UInt8) (h : ¬ (2 ≤ l.length ∧ l.head? = some 34 ∧ l.getLast? = some 34 ∧ Lib.validD l = true)) : unqB l = none := by unfold unqB; rw [if_neg h]
theorem unqB_yes (l : List UInt8) (h : 2 ≤ l.length ∧ l.head? = some 34 ∧ l.getLast? = some 34 ∧ Lib.validD l = true) : unqB l = unqS (innerB l) := by unfold unqB; rw [if_pos h]

theorem unqS_at (s : ByteArray) (pos : Nat) (h : pos < s.size) : unqS (s.data.toList.drop pos) = if s[pos].toNat = 92 then (oneL (s.data.toList.drop (pos + 1))).bind fun p => (unqS (s.data.toList.drop (pos + 1 + p.2))).map (p.1 ++ ·) else if s[pos].toNat < 32 ∨ s[pos].toNat = 34 then none else (unqS (s.data.toList.drop (pos + 1))).map (s[pos] :: ·) := by
  conv => lhs; rw [drop_cons s pos h, unqS_cons]
  simp only [List.drop_drop]

set_option maxHeartbeats 1000000 in
theorem refUnq_short (s : ByteArray) (w : World) (h2 : s.size < 2) :
    Calls Tryd.prog 48 #[.string s] w (PairBelow w (unqB s.data.toList)) := by
  have HN := Lib.hid (unqB_no s.data.toList (fun h => by have : s.data.toList.length = s.size := rfl; omega))
  have hd : decide ((s.size : Int) < 2) = true := by simp; omega
  go_enter Tryd.func48, Tryd.ntmps48
  go_wp2_with fail
  go_ret2
  exact pair_no HN.out (Below.refl _ _)

set_option maxHeartbeats 1000000 in
theorem refUnq_head (s : ByteArray) (w : World) (hs : s.size ≤ 1000000000) (h2 : 2 ≤ s.size) (hq : (s[0].toNat : Int) ≠ 34) :
    Calls Tryd.prog 48 #[.string s] w (PairBelow w (unqB s.data.toList)) := by
  have HN := Lib.hid (unqB_no s.data.toList (fun h => by
    have e := h.2.1
    rw [head_at s (by omega)] at e
    injection e with e
    rw [e] at hq
    exact hq rfl))
  have hd : decide ((s.size : Int) < 2) = false := by simp; omega
  have h0 : 0 < s.size := by omega
  have hq' : ((s[0].toNat : Int) != 34) = true := by simpa using hq
  clear hq
  go_enter Tryd.func48, Tryd.ntmps48
  go_wp2_with fail
  go_ret2
  exact pair_no HN.out (Below.refl _ _)

set_option maxHeartbeats 1000000 in
theorem refUnq_last (s : ByteArray) (w : World) (hs : s.size ≤ 1000000000) (h2 : 2 ≤ s.size) (hq : (s[0].toNat : Int) = 34) (hl : ((s[s.size - 1]'(by omega)).toNat : Int) ≠ 34) :
    Calls Tryd.prog 48 #[.string s] w (PairBelow w (unqB s.data.toList)) := by
  have HN := Lib.hid (unqB_no s.data.toList (fun h => by
    have e := h.2.2.1
    rw [last_at s (by omega)] at e
    injection e with e
    rw [e] at hl
    exact hl rfl))
  have hd : decide ((s.size : Int) < 2) = false := by simp; omega
  have h0 : 0 < s.size := by omega
  have hq' : ((s[0].toNat : Int) != 34) = false := by simpa using hq
  have hl' : (((s[s.size - 1]'(by omega)).toNat : Int) != 34) = true := by simpa using hl
  clear hq hl
  go_enter Tryd.func48, Tryd.ntmps48
  go_wp2_with fail
  go_ret2
  exact pair_no HN.out (Below.refl _ _)

set_option maxHeartbeats 1000000 in
theorem refUnq_bad (s : ByteArray) (w : World) (hs : s.size ≤ 1000000000) (h2 : 2 ≤ s.size) (hq : (s[0].toNat : Int) = 34) (hl : ((s[s.size - 1]'(by omega)).toNat : Int) = 34) (hv : Lib.validD s.data.toList = false) :
    Calls Tryd.prog 48 #[.string s] w (PairBelow w (unqB s.data.toList)) := by
  have HN := Lib.hid (unqB_no s.data.toList (fun h => by rw [hv] at h; exact absurd h.2.2.2 (by simp)))
  have hd : decide ((s.size : Int) < 2) = false := by simp; omega
  have h0 : 0 < s.size := by omega
  have hq' : ((s[0].toNat : Int) != 34) = false := by simpa using hq
  have hl' : (((s[s.size - 1]'(by omega)).toNat : Int) != 34) = false := by simpa using hl
  clear hq hl
  go_enter Tryd.func48, Tryd.ntmps48
  go_wp2_with ((go_at_call 73); (refine (refValid_any _ _ (by omega)).mono ?_); rintro e w1 ⟨rfl, rfl⟩)
  go_ret2
  exact pair_no HN.out (Below.refl _ _)

set_option maxHeartbeats 4000000 in
set_option maxRecDepth 100000 in
theorem refUnq_good (s : ByteArray) (w : World) (hs : s.size ≤ 1000000000) (h2 : 2 ≤ s.size) (hq : (s[0].toNat : Int) = 34) (hl : ((s[s.size - 1]'(by omega)).toNat : Int) = 34) (hv : Lib.validD s.data.toList = true) :
    Calls Tryd.prog 48 #[.string s] w (PairBelow w (unqB s.data.toList)) := by
  have HN := Lib.hid (show unqB s.data.toList = unqS (s.extract 1 (s.size - 1)).data.toList by
    rw [inner_at]
    refine unqB_yes s.data.toList ⟨h2, ?_, ?_, hv⟩
    · rw [head_at s (by omega), UInt8.toNat_inj.1 (show s[0].toNat = (34 : UInt8).toNat by simp; omega)]
    · rw [last_at s (by omega), UInt8.toNat_inj.1 (show (s[s.size - 1]'(by omega)).toNat = (34 : UInt8).toNat by simp; omega)])
  have hd : decide ((s.size : Int) < 2) = false := by simp; omega
  have h0 : 0 < s.size := by omega
  have hq' : ((s[0].toNat : Int) != 34) = false := by simpa using hq
  have hl' : (((s[s.size - 1]'(by omega)).toNat : Int) != 34) = false := by simpa using hl
  have hts : (s.extract 1 (s.size - 1)).size ≤ 1000000000 := by simp; omega
  clear hq hl
  go_enter Tryd.func48, Tryd.ntmps48
  go_wp2_with ((go_at_call 73); (refine (refValid_any _ _ (by omega)).mono ?_); rintro e w1 ⟨rfl, rfl⟩)
  clear hv
  generalize s.extract 1 (s.size - 1) = t at HN hts
  go_loopw [5, 6, 7, 8] (fun a i _ _ wr => ∃ (pos : Nat) (S : ByteArray), pos ≤ t.size + 12 ∧ i = .int .i64 pos ∧ a = .string S ∧ S.size ≤ 4 * pos ∧ Below w.heap.size w wr ∧ Hid (unqS t.data.toList = (unqS (t.data.toList.drop pos)).map (bl S ++ ·))) (fun _ i _ _ _ => t.size - (intOf i).toNat)
  case atStart => exact ⟨0, ⟨#[]⟩, by omega, rfl, rfl, Nat.le_refl _, Below.refl _ _, Lib.hid (by
    rw [List.drop_zero]
    cases unqS t.data.toList <;> rfl)⟩
  case round =>
    obtain ⟨pos, S, hp, rfl, rfl, hS, hbw, HU⟩ := hrel
    by_cases hlt : pos < t.size
    · have hbl := (t[pos]).toNat_lt
      have HA := Lib.hid (unqS_at t pos hlt)
      by_cases c1 : t[pos].toNat = 92
      · have f1 : ((t[pos].toNat : Int) == 92) = true := by rw [c1]; rfl
        cases ho : oneL (t.data.toList.drop (pos + 1)) with
        | none =>
          have HE := Lib.hid (show unqB s.data.toList = none by
            rw [HN.out, HU.out, HA.out, if_pos c1, ho]; rfl)
          have HO := Lib.hid ho
          clear ho c1
          go_wp2_with fail
          refine (oneAt_none t _ (pos + 1) (by omega) HO.out _ hts).mono ?_
          rintro e w2 ⟨rfl, b2⟩
          go_wp2_with fail
          go_ret2
          exact pair_no HE.out (hbw.trans (b2.mono hbw.size))
        | some p =>
          obtain ⟨b, n⟩ := p
          obtain ⟨hb4, hn1, hn11⟩ := oneL_facts _ b n ho
          obtain ⟨T, hT⟩ : ∃ T : ByteArray, T = ⟨b.toArray⟩ := ⟨_, rfl⟩
          have hTs : T.size ≤ 4 := by rw [hT]; simpa [ByteArray.size] using hb4
          have HE := Lib.hid (show unqS t.data.toList = (unqS (t.data.toList.drop (pos + 1 + n))).map (bl (S ++ T) ++ ·) by
            rw [HU.out, HA.out, if_pos c1, ho, Option.bind_some, bl_app, hT]
            simp only
            cases unqS (t.data.toList.drop (pos + 1 + n)) with
            | none => rfl
            | some u => simp [bl])
          have HT := Lib.hid hT
          have HO := Lib.hid ho
          have fn : ((n : Int) == 0) = false := by simp; omega
          have z1 : (S ++ T).size ≤ 4 * pos + 4 := by rw [ByteArray.size_append]; omega
          clear ho c1 hT
          go_wp2_with fail
          refine (oneAt_some t _ (pos + 1) n b T (by omega) HO.out HT.out _ hts).mono ?_
          rintro e w2 ⟨rfl, b2⟩
          go_wp2_with fail
          go_roundw
          case rel => exact ⟨pos + 1 + n, S ++ T, by omega, by go_num, rfl, by omega, hbw.trans (b2.mono hbw.size), HE⟩
          case measure => simp [intOf]; omega
      · have f1 : ((t[pos].toNat : Int) == 92) = false := by simp; omega
        by_cases c2 : t[pos].toNat < 32
        · have f2 : decide ((t[pos].toNat : Int) < 32) = true := by simp; omega
          have HE := Lib.hid (show unqB s.data.toList = none by
            rw [HN.out, HU.out, HA.out, if_neg c1, if_pos (.inl c2)]; rfl)
          clear c1 c2
          go_wp2_with fail
          go_ret2
          exact pair_no HE.out hbw
        · have f2 : decide ((t[pos].toNat : Int) < 32) = false := by simp; omega
          by_cases c3 : t[pos].toNat = 34
          · have f3 : ((t[pos].toNat : Int) == 34) = true := by rw [c3]; rfl
            have HE := Lib.hid (show unqB s.data.toList = none by
              rw [HN.out, HU.out, HA.out, if_neg c1, if_pos (.inr c3)]; rfl)
            clear c1 c2 c3
            go_wp2_with fail
            go_ret2
            exact pair_no HE.out hbw
          · have f3 : ((t[pos].toNat : Int) == 34) = false := by simp; omega
            have hsx : (Instr.slice 9 (.string t) (some (.int .i64 (pos : Int))) (some (.int .i64 ((pos : Int) + 1))) none).run Tryd.prog wr = .ok (.string (t.extract pos (pos + 1))) wr := by
              rw [run_slice_string_if _ _ _ _ _ _ _ Tryd.underlying9, if_pos (by omega), if_pos (by omega)]
              have e : ((pos : Int) + 1).toNat = pos + 1 := by omega
              rw [e]
              rfl
            have hxs : (t.extract pos (pos + 1)).size ≤ 1 := by simp; omega
            have HE := Lib.hid (show unqS t.data.toList = (unqS (t.data.toList.drop (pos + 1))).map (bl (S ++ t.extract pos (pos + 1)) ++ ·) by
              have ex : bl (t.extract pos (pos + 1)) = [t[pos]] := ext_one t pos hlt
              rw [HU.out, HA.out, if_neg c1, if_neg (by omega), bl_app, ex]
              cases unqS (t.data.toList.drop (pos + 1)) with
              | none => rfl
              | some u => simp)
            have z1 : (S ++ t.extract pos (pos + 1)).size ≤ 4 * pos + 1 := by rw [ByteArray.size_append]; omega
            clear c1 c2 c3
            go_wp2_with fail
            go_roundw
            case rel => exact ⟨pos + 1, _, by omega, by go_num, rfl, by omega, hbw, HE⟩
            case measure => simp [intOf]; omega
    · have HE := Lib.hid (show unqB s.data.toList = some (bl S) by
        rw [HN.out, HU.out, drop_end t pos hlt, unqS_nil]
        simp)
      go_wp2_with fail
      go_ret2
      exact pair_yes HE.out hbw

theorem refUnquote_any (s : ByteArray) (w : World) (hs : s.size ≤ 1000000000) :
    Calls Tryd.prog 48 #[.string s] w (PairBelow w (unqP s.data.toList)) := by
  rw [unqP_B]
  by_cases h2 : s.size < 2
  · exact refUnq_short s w h2
  · by_cases hq : (s[0].toNat : Int) = 34
    · by_cases hl : ((s[s.size - 1]'(by omega)).toNat : Int) = 34
      · cases hv : Lib.validD s.data.toList with
        | false => exact refUnq_bad s w hs (by omega) hq hl hv
        | true => exact refUnq_good s w hs (by omega) hq hl hv
      · exact refUnq_last s w hs (by omega) hq hl
    · exact refUnq_head s w hs (by omega) hq

end Go.Proofs.YtakmkhkbeabgcaaDoor
