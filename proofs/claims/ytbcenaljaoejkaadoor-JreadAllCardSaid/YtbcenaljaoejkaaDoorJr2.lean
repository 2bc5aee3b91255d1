/-
  jread's reader: words, texts in quotes, numbers.
-/
import Derived.Test.YtbcenaljaoejkaaDoorJr1
import Derived.StillTailTactics
namespace Go.Proofs.YtbcenaljaoejkaaDoor
open Go.RowKit

theorem ext_list (s : ByteArray) (a b : Nat) : (s.extract a b).data.toList = (s.data.toList.drop a).take (b - a) := by
  rw [ByteArray.data_extract, Array.toList_extract]

theorem ext_all (s : ByteArray) (a : Nat) : (s.extract a s.size).data.toList = s.data.toList.drop a := by
  rw [ext_list, List.take_of_length_le]
  rw [len_drop]
  exact Nat.le_refl _

theorem slice_two (s : ByteArray) (a b : Nat) (h1 : a ≤ b) (h2 : b ≤ s.size) (z : Int) (hz : z = b) (w : World) : (Instr.slice 9 (.string s) (some (.int .i64 a)) (some (.int .i64 z)) none).run Tryd.prog w = .ok (.string (s.extract a b)) w := by
  subst hz
  have e1 : ¬ ((a : Int) < 0 ∨ (b : Int) < a ∨ (s.size : Int) < b) := by omega
  have e2 : ¬ ((s.size : Int) < b) := by omega
  have e3 : ¬ ((b : Int) < a) := by omega
  go_simp

theorem clone_any (s : ByteArray) (w : World) (h : s.size ≤ 281474976710656) : Calls Tryd.prog 56 #[.string s] w fun e w' => e = .returned (.string s) ∧ Below w.heap.size w w' := by
  go_enter Tryd.func56, Tryd.ntmps56
  go_wp2_with fail
  refine (Tryd.stringslite_Clone s _ h).mono ?_
  rintro e w1 ⟨rfl, hb⟩
  go_wp2_with fail
  go_ret
  exact ⟨rfl, hb⟩

set_option maxHeartbeats 1000000 in
set_option maxRecDepth 100000 in
theorem word_no (word : ByteArray) (R : Nat) (s : ByteArray) (p : Nat) (d t : Bool) (w : World) (h : Rdr w R s p d t) (hp : p ≤ s.size) (hw : Lib.hasPrefix (s.data.toList.drop p) word.data.toList = false) :
    Calls Tryd.prog 43 #[.pointer (some ⟨R, 0, none⟩), .string word] w (Bad R w) := by
  have hpre : ∀ W, Calls Tryd.prog 54 #[.string (s.extract p s.size), .string word] W fun e w' => e = .returned (.bool false) ∧ w' = W := fun W => by
    have := Tryd.strings_HasPrefix (s.extract p s.size) word W
    rw [ext_all, hw] at this
    exact this
  have HR := Lib.hid h
  obtain ⟨c0, c1, c2, c3, fz⟩ := h
  clear hw
  go_enter Tryd.func43, Tryd.ntmps43
  go_wp2_with fail
  go_quiet ((go_at_call 54; exact Calls.quiet_of_same (hpre _)))
  go_wp2_with fail
  refine (fail_any 2 _).mono ?_
  rintro e w2 ⟨rfl, rfl⟩
  exact ⟨rfl, rfl, (Aw.refl _ _ _).drewN _⟩

set_option maxHeartbeats 1000000 in
set_option maxRecDepth 100000 in
theorem word_yes (word : ByteArray) (R : Nat) (s : ByteArray) (p : Nat) (d t : Bool) (w : World) (h : Rdr w R s p d t) (hp : p ≤ s.size) (hs : s.size ≤ 4000) (hw : Lib.hasPrefix (s.data.toList.drop p) word.data.toList = true) :
    Calls Tryd.prog 43 #[.pointer (some ⟨R, 0, none⟩), .string word] w fun e w' => e = .returned (.tuple #[]) ∧ Now R s d t w ((s.data.toList.drop p).drop word.size) w' := by
  have hpre : ∀ W, Calls Tryd.prog 54 #[.string (s.extract p s.size), .string word] W fun e w' => e = .returned (.bool true) ∧ w' = W := fun W => by
    have := Tryd.strings_HasPrefix (s.extract p s.size) word W
    rw [ext_all, hw] at this
    exact this
  have hlen : p + word.size ≤ s.size := by
    have h1 := (List.isPrefixOf_iff_prefix.1 hw).length_le
    rw [len_drop] at h1
    have h2 : word.data.toList.length = word.size := rfl
    omega
  have HR := Lib.hid h
  obtain ⟨c0, c1, c2, c3, fz⟩ := h
  clear hw
  go_enter Tryd.func43, Tryd.ntmps43
  go_wp2_with fail
  go_quiet ((go_at_call 54; exact Calls.quiet_of_same (hpre _)))
  go_wp2_with fail
  go_end0
  exact ⟨rfl, p + word.size, hlen, by rw [List.drop_drop], (HR.out.drewN _).setAtI (by omega), ((Aw.refl _ _ _).drewN _).set _⟩

/-! ### texts in quotes -/
theorem qLen_cons (b : UInt8) (r : List UInt8) : qLen (b :: r) = if b = 34 then 0 else if b = 92 then 2 + qLen (r.drop 1) else 1 + qLen r := by
  cases r with
  | nil => rfl
  | cons c r => rfl
theorem qLen_at (s : ByteArray) (e : Nat) (h : e < s.size) : qLen (s.data.toList.drop e) = if s[e] = 34 then 0 else if s[e] = 92 then 2 + qLen (s.data.toList.drop (e + 2)) else 1 + qLen (s.data.toList.drop (e + 1)) := by
  rw [drop_cons s e h, qLen_cons, List.drop_drop]
theorem qLen_end (s : ByteArray) (e : Nat) (h : ¬ e < s.size) : qLen (s.data.toList.drop e) = 0 := by rw [drop_end s e h]; rfl
theorem u8_eq {b : UInt8} {n : Nat} (h : n < 256) (hb : (b.toNat : Int) = n) : b = UInt8.ofNat n := UInt8.toNat_inj.1 (by rw [UInt8.toNat_ofNat_of_lt' (by simpa using h)]; omega)

theorem qt_none {s : ByteArray} {p E : Nat} (hp : p < s.size) (h : p + 1 + qLen (s.data.toList.drop (p + 1)) = E) (hE : ¬ E < s.size) : qt (s.data.toList.drop p) = none := by
  unfold qt
  rw [List.drop_drop, if_neg]
  rw [len_drop]; omega
theorem qt_at {s : ByteArray} {p E : Nat} (hp : p < s.size) (h : p + 1 + qLen (s.data.toList.drop (p + 1)) = E) (hE : E < s.size) : qt (s.data.toList.drop p) = (unqP (s.extract p (E + 1)).data.toList).map fun t => (t, s.data.toList.drop (E + 1)) := by
  unfold qt
  rw [List.drop_drop, if_pos (by rw [len_drop]; omega), ext_list, List.drop_drop, show E + 1 - p = qLen (s.data.toList.drop (p + 1)) + 2 by omega, show p + (qLen (s.data.toList.drop (p + 1)) + 2) = E + 1 by omega]

theorem Aw.ofDrew {R : Nat} {w w1 : World} (hb : Below w.drew.heap.size w.drew w1) : Aw R w.heap.size w w1 := ⟨hb.os, hb.tape, hb.output, hb.size, fun k hk _ => hb.block k hk⟩
theorem Rdr.ofDrew {w w1 : World} {R : Nat} {s : ByteArray} {p : Nat} {d t : Bool} (h : Rdr w R s p d t) (hb : Below w.drew.heap.size w.drew w1) : Rdr w1 R s p d t := h.keep (hb.block R h.lt)

def QtIs (R : Nat) (s : ByteArray) (d t : Bool) (w : World) (o : Option (List UInt8 × List UInt8)) (e : Ending) (w' : World) : Prop :=
  match o with
  | none => Bad R w e w'
  | some (tx, r) => e = .returned (.string (ofL tx)) ∧ Now R s d t w r w'

set_option maxHeartbeats 2000000 in
set_option maxRecDepth 100000 in
theorem quoted_any (R : Nat) (s : ByteArray) (p : Nat) (d t : Bool) (w : World) (h : Rdr w R s p d t) (hp : p < s.size) (hs : s.size ≤ 4000) :
    Calls Tryd.prog 42 #[.pointer (some ⟨R, 0, none⟩)] w (QtIs R s d t w (qt (s.data.toList.drop p))) := by
  have HR := Lib.hid h
  obtain ⟨c0, c1, c2, c3, fz⟩ := h
  go_enter Tryd.func42, Tryd.ntmps42
  go_wp2_with fail
  go_loop [3] (fun v => ∃ e : Nat, v = .int .i64 e ∧ p + 1 ≤ e ∧ e ≤ s.size + 1 ∧ Hid (p + 1 + qLen (s.data.toList.drop (p + 1)) = e + qLen (s.data.toList.drop e))) (fun v => s.size + 2 - (intOf v).toNat)
  case atStart => exact ⟨p + 1, by go_num, Nat.le_refl _, by omega, Lib.hid rfl⟩
  case round =>
    obtain ⟨e, rfl, he1, he2, HE⟩ := hrel
    by_cases hlt : e < s.size
    · have hd1 : decide ((e : Int) < s.size) = true := decide_eq_true (by omega)
      have hat := qLen_at s e hlt
      by_cases h34 : (s[e].toNat : Int) = 34
      · have h34' : s[e] = 34 := UInt8.toNat_inj.1 (by simp; omega)
        rw [if_pos h34'] at hat
        have HF := Lib.hid (show p + 1 + qLen (s.data.toList.drop (p + 1)) = e by rw [HE.out, hat]; rfl)
        have hn : ((s[e].toNat : Int) != 34) = false := by simpa using h34
        have hge : decide ((s.size : Int) ≤ e) = false := decide_eq_false (by omega)
        clear hat h34 h34'
        have HQ := Lib.hid (qt_at hp HF.out hlt)
        have hu : ∀ W, Calls Tryd.prog 53 #[.string (s.extract p (e + 1))] W (PairBelow W (unqP (s.extract p (e + 1)).data.toList)) := fun W => unquote_any _ W (by simp; omega)
        have hwr : IntKind.i64.wrap ((e : Int) + 1) = (e : Int) + 1 := IntWalk.i64_in _ (by omega)
        have hsl : ∀ W, (Instr.slice 9 (.string s) (some (.int .i64 p)) (some (.int .i64 ((e : Int) + 1))) none).run Tryd.prog W = .ok (.string (s.extract p (e + 1))) W := fun W => slice_two s p (e + 1) (by omega) (by omega) _ (by omega) W
        cases hq : unqP (s.extract p (e + 1)).data.toList with
        | none =>
          rw [hq] at hu
          have HN := Lib.hid (show qt (s.data.toList.drop p) = none by rw [HQ.out, hq]; rfl)
          clear hq HQ
          go_wp2_with fail
          go_region_with ((go_at_call 53); (with_reducible refine (hu _).mono ?_); rintro e w1 ⟨hb, rfl⟩)
          all_goals
            go_wp2_with fail
            refine (fail_any 2 _).mono ?_
            rintro e w2 ⟨rfl, rfl⟩
            refine ⟨rfl, ?_⟩
            rw [HN.out]
            exact ⟨rfl, Aw.ofDrew hb⟩
        | some tx =>
          rw [hq] at hu
          have HN := Lib.hid (show qt (s.data.toList.drop p) = some (tx, s.data.toList.drop (e + 1)) by rw [HQ.out, hq]; rfl)
          clear hq HQ
          go_wp2_with fail
          go_region_with ((go_at_call 53); (with_reducible refine (hu _).mono ?_); rintro e w1 ⟨hb, rfl⟩)
          all_goals
            have hr1 := HR.out.ofDrew hb
            have HR1 := Lib.hid hr1
            obtain ⟨g0, g1, g2, g3, gz⟩ := hr1
            go_wp2_with fail
            go_ret
            rw [HN.out]
            exact ⟨rfl, e + 1, by omega, rfl, HR1.out.setAtI (by omega), (Aw.ofDrew hb).set _⟩
      · have h34' : ¬ s[e] = 34 := fun h => h34 (by rw [h]; rfl)
        rw [if_neg h34'] at hat
        have hn : ((s[e].toNat : Int) != 34) = true := by simpa using h34
        by_cases h92 : (s[e].toNat : Int) = 92
        · have h92' : s[e] = 92 := UInt8.toNat_inj.1 (by simp; omega)
          rw [if_pos h92'] at hat
          have hn2 : ((s[e].toNat : Int) == 92) = true := by simpa using h92
          have HA := Lib.hid hat
          clear hat h34 h34' h92 h92'
          go_wp2_with fail
          go_round
          case rel => exact ⟨e + 2, by go_num, by omega, by omega, Lib.hid (by rw [HE.out, HA.out]; omega)⟩
          case measure => simp [intOf]; omega
        · have h92' : ¬ s[e] = 92 := fun h => h92 (by rw [h]; rfl)
          rw [if_neg h92'] at hat
          have hn2 : ((s[e].toNat : Int) == 92) = false := by simpa using h92
          have HA := Lib.hid hat
          clear hat h34 h34' h92 h92'
          go_wp2_with fail
          go_round
          case rel => exact ⟨e + 1, by go_num, by omega, by omega, Lib.hid (by rw [HE.out, HA.out]; omega)⟩
          case measure => simp [intOf]; omega
    · have hd1 : decide ((e : Int) < s.size) = false := decide_eq_false (by omega)
      have hge : decide ((s.size : Int) ≤ e) = true := decide_eq_true (by omega)
      have HN := Lib.hid (qt_none (E := e) hp (by rw [HE.out, qLen_end s e hlt]; rfl) hlt)
      go_wp2_with fail
      refine (fail_any 2 _).mono ?_
      rintro e w2 ⟨rfl, rfl⟩
      refine ⟨rfl, ?_⟩
      rw [HN.out]
      exact ⟨rfl, Aw.refl _ _ _⟩

end Go.Proofs.YtbcenaljaoejkaaDoor
