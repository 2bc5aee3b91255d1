/-
  What jval.Number answers: whether a text is a number, and a whole one.
-/
import Derived.Test.YtkahnlgedacppaaGreatDoorMSmall
import Derived.Test.YtkahnlgedacppaaGreatDoorMShelf
namespace Go.Proofs.YtkahnlgedacppaaGreatDoor
open Go.RowKit

theorem Tryz.strings_TrimLeft (s cutset : ByteArray) (w : World) (hcs : cutset.size < 4294967281) (hascii : ∀ (j : Nat) b, cutset.data.toList[j]? = some b → b.toNat < 128) :
    Calls Tryz.prog 268 #[.string s, .string cutset] w fun e w' => e = .returned (.string ⟨(Lib.trimLeftS s.data.toList cutset.data.toList).toArray⟩) ∧ Below w.heap.size w w' :=
  Any.strings_TrimLeft_laid Tryz.lays161 (by kernel_rfl) s cutset w hcs hascii

theorem turnW {P : Program} {f : FuncId} {args : Array Value} {w : World} {r : Ending} (h : Calls P f args w fun e w' => e = r ∧ w' = w) : Calls P f args w fun e w' => e = r ∧ w = w' :=
  h.mono fun _ _ x => ⟨x.1, x.2.symm⟩

def digU (b : UInt8) : Bool := digB b.toNat
def dd (l : List UInt8) : List UInt8 := l.dropWhile digU
def digitsS : ByteArray := ⟨#[48, 49, 50, 51, 52, 53, 54, 55, 56, 57]⟩

theorem digits_has (b : UInt8) : digitsS.data.toList.contains b = digU b := by
  have hb := b.toNat_lt
  rw [Bool.eq_iff_iff]
  simp only [digitsS, digU, digB, List.contains_iff_mem, List.mem_cons, List.not_mem_nil, or_false, decide_eq_true_eq, ← UInt8.toNat_inj]
  simp
  omega

theorem trim_dd (l : List UInt8) : Lib.trimLeftS l digitsS.data.toList = dd l := by
  unfold Lib.trimLeftS dd
  congr 1
  funext b
  exact digits_has b

/-- What stands behind the digits; is there one? -/
def cutDigitsP (l : List UInt8) : List UInt8 × Bool := (dd l, decide ((dd l).length < l.length))
def cutWholeP (l : List UInt8) : List UInt8 × Bool := if Lib.hasPrefix l [48] then (Lib.trimPrefix l [48], true) else cutDigitsP l
def cutFractionP (l : List UInt8) : List UInt8 × Bool := if Lib.hasPrefix l [46] then cutDigitsP (Lib.trimPrefix l [46]) else (l, true)
def beginB (l cs : List UInt8) : Bool := match l with
  | [] => false
  | b :: _ => cs.contains b
def signCut (l : List UInt8) : List UInt8 := if beginB l [43, 45] then l.drop 1 else l
def cutExponentP (l : List UInt8) : List UInt8 × Bool := if beginB l [101, 69] then cutDigitsP (signCut (l.drop 1)) else (l, true)
def numW (l : List UInt8) : List UInt8 × Bool := cutWholeP (Lib.trimPrefix l [45])
def numF (l : List UInt8) : List UInt8 × Bool := cutFractionP (numW l).1
def numE (l : List UInt8) : List UInt8 × Bool := cutExponentP (numF l).1
def numOk (l : List UInt8) : Bool := decide (l.length ≤ 40) && ((numW l).2 && (numF l).2 && (numE l).2 && (numE l).1.isEmpty)
def numWhole (l : List UInt8) : Bool := numOk l && (numW l).1.isEmpty

def StrBool (p : List UInt8 × Bool) (w : World) (e : Ending) (w' : World) : Prop := e = .returned (.tuple #[.string ⟨p.1.toArray⟩, .bool p.2]) ∧ Below w.heap.size w w'

set_option maxHeartbeats 400000 in
theorem cutDigits_any (s : ByteArray) (w : World) :
    Calls Tryz.prog 310 #[.string s] w (StrBool (cutDigitsP s.data.toList) w) := by
  have HT := Lib.hid (trim_dd s.data.toList)
  go_enter Tryz.func310, Tryz.ntmps310
  go_wp2_with fail
  refine (Tryz.strings_TrimLeft s digitsS _ (by decide) (ascii_of_all (by decide))).mono ?_
  rintro e w1 ⟨rfl, hb⟩
  rw [HT.out]
  go_wp2_with fail
  go_ret2
  exact ⟨rfl, hb⟩

theorem idx_ge (cs : List UInt8) (b : UInt8) : decide (0 ≤ Lib.indexByte cs b) = cs.contains b := by
  have hlow : ∀ cs : List UInt8, -1 ≤ Lib.indexByte cs b := by
    intro cs
    induction cs with
    | nil => exact Int.le_refl (-1)
    | cons c r ih =>
      unfold Lib.indexByte
      split
      · omega
      · split <;> omega
  induction cs with
  | nil => rfl
  | cons c r ih =>
    unfold Lib.indexByte
    have := hlow r
    by_cases h : c = b
    · subst h; simp
    · have h1 : (c == b) = false := by simpa using h
      have h2 : (b == c) = false := by simpa using fun e => h e.symm
      rw [h1, List.contains_cons, h2, Bool.false_or, ← ih]
      by_cases h3 : Lib.indexByte r b = -1
      · rw [h3]; decide
      · have h4 : (Lib.indexByte r b == -1) = false := by simpa using h3
        rw [h4]
        simp
        omega

theorem beginB_cons (s : ByteArray) (cs : List UInt8) (h : 0 < s.size) : beginB s.data.toList cs = cs.contains s[0] := by
  have e := drop_cons s 0 h
  rw [List.drop_zero] at e
  rw [e]
  rfl

theorem u8_back (b : UInt8) : ((b.toNat : Int)).toNat.toUInt8 = b := by simp

set_option maxHeartbeats 400000 in
theorem beginsWith_any (s t : ByteArray) (w : World) :
    Calls Tryz.prog 312 #[.string s, .string t] w fun e w' => e = .returned (.bool (beginB s.data.toList t.data.toList)) ∧ w = w' := by
  by_cases hs : 0 < s.size
  · have HB := Lib.hid (beginB_cons s t.data.toList hs)
    have HI := Lib.hid (idx_ge t.data.toList s[0])
    have HU := Lib.hid (u8_back s[0])
    have h1 : s.toList = s.data.toList := Lib.toList_data s
    have h2 : (s.data.toList).isEmpty = false := by
      have e := drop_cons s 0 hs
      rw [List.drop_zero] at e
      rw [e]; rfl
    go_enter Tryz.func312, Tryz.ntmps312
    go_wp2_with fail
    refine (turnW (Tryz.strings_IndexByte _ _ _)).mono ?_
    rintro e w1 ⟨rfl, rfl⟩
    rw [HU.out]
    go_wp2_with fail
    go_ret
    exact ⟨ret_bool (by rw [HB.out, ← HI.out]), rfl⟩
  · have h0 : s = ⟨#[]⟩ := by
      have e : s.data.toList = [] := List.eq_nil_of_length_eq_zero (by have := Lib.size_eq s; omega)
      cases s
      simp_all
    subst h0
    go_enter Tryz.func312, Tryz.ntmps312
    go_wp2_with fail
    go_ret
    exact ⟨rfl, rfl⟩

theorem toArray_list (l : List UInt8) : (⟨l.toArray⟩ : ByteArray).data.toList = l := rfl

theorem strBool_of {p q : List UInt8 × Bool} {w w' : World} (h : p = q) (hb : Below w.heap.size w w') : StrBool q w (.returned (.tuple #[.string ⟨p.1.toArray⟩, .bool p.2])) w' := by
  subst h; exact ⟨rfl, hb⟩

theorem of_list (s : ByteArray) : (⟨s.data.toList.toArray⟩ : ByteArray) = s := by cases s; simp

set_option maxHeartbeats 400000 in
theorem cutWhole_any (s : ByteArray) (w : World) :
    Calls Tryz.prog 269 #[.string s] w (StrBool (cutWholeP s.data.toList) w) := by
  cases hp : Lib.hasPrefix s.data.toList [48] with
  | true =>
    have HC := Lib.hid (show (Lib.trimPrefix s.data.toList [48], true) = cutWholeP s.data.toList by unfold cutWholeP; rw [hp]; rfl)
    go_enter Tryz.func269, Tryz.ntmps269
    go_wp2_with ((go_at_call 285); (refine (turnW (Tryz.strings_CutPrefix _ _ _)).mono ?_); rintro e w' ⟨rfl, rfl⟩)
    go_ret2
    exact strBool_of HC.out (Below.refl _ _)
  | false =>
    have HC := Lib.hid (show cutDigitsP s.data.toList = cutWholeP s.data.toList by unfold cutWholeP; rw [hp]; rfl)
    go_enter Tryz.func269, Tryz.ntmps269
    go_wp2_with (first | ((go_at_call 285); (refine (turnW (Tryz.strings_CutPrefix _ _ _)).mono ?_); rintro e w' ⟨rfl, rfl⟩) | ((go_at_call 310); (refine (cutDigits_any _ _).mono ?_); rintro e w1 ⟨rfl, hb⟩))
    go_ret2
    exact strBool_of HC.out hb

set_option maxHeartbeats 400000 in
theorem cutFraction_any (s : ByteArray) (w : World) :
    Calls Tryz.prog 271 #[.string s] w (StrBool (cutFractionP s.data.toList) w) := by
  cases hp : Lib.hasPrefix s.data.toList [46] with
  | true =>
    have HC := Lib.hid (show cutDigitsP (Lib.trimPrefix s.data.toList [46]) = cutFractionP s.data.toList by unfold cutFractionP; rw [hp]; rfl)
    go_enter Tryz.func271, Tryz.ntmps271
    go_wp2_with (first | ((go_at_call 285); (refine (turnW (Tryz.strings_CutPrefix _ _ _)).mono ?_); rintro e w' ⟨rfl, rfl⟩) | ((go_at_call 310); (refine (cutDigits_any _ _).mono ?_); rintro e w1 ⟨rfl, hb⟩))
    go_ret2
    exact strBool_of HC.out hb
  | false =>
    have HC := Lib.hid (show (s.data.toList, true) = cutFractionP s.data.toList by unfold cutFractionP; rw [hp]; rfl)
    go_enter Tryz.func271, Tryz.ntmps271
    go_wp2_with ((go_at_call 285); (refine (turnW (Tryz.strings_CutPrefix _ _ _)).mono ?_); rintro e w' ⟨rfl, rfl⟩)
    go_ret2
    have h := strBool_of HC.out (Below.refl w.heap.size w)
    rw [of_list] at h
    exact h

theorem begin_pos (s : ByteArray) (cs : List UInt8) (h : beginB s.data.toList cs = true) : 1 ≤ s.size := by
  have e := Lib.size_eq s
  cases hl : s.data.toList with
  | nil => rw [hl] at h; cases h
  | cons b r => rw [e, hl]; simp

theorem slice_one (s : ByteArray) (h : 1 ≤ s.size) (w : World) : (Instr.slice 9 (.string s) (some (.int .i64 1)) none none).run Tryz.prog w = .ok (.string ⟨(s.data.toList.drop 1).toArray⟩) w := by
  rw [show (Instr.slice 9 (.string s) (some (.int .i64 1)) none none).run Tryz.prog w = .ok (.string (s.extract 1 s.size)) w from ?_]
  · congr 2
    have : (s.extract 1 s.size).data.toList = s.data.toList.drop 1 := by
      rw [Lib.extract_data]
      exact List.take_of_length_le (by rw [List.length_drop]; exact Nat.le_refl _)
    rw [← this, of_list]
  · go_simp
    intro h'
    omega

set_option maxHeartbeats 400000 in
theorem cutExponent_any (s : ByteArray) (w : World) :
    Calls Tryz.prog 272 #[.string s] w (StrBool (cutExponentP s.data.toList) w) := by
  cases hp : beginB s.data.toList [101, 69] with
  | true =>
    obtain ⟨s1, hsl, H1⟩ : ∃ s1 : ByteArray, (∀ w, (Instr.slice 9 (.string s) (some (.int .i64 1)) none none).run Tryz.prog w = .ok (.string s1) w) ∧ Hid (s1.data.toList = s.data.toList.drop 1) :=
      ⟨_, slice_one s (begin_pos s _ hp), Lib.hid rfl⟩
    cases hq : beginB s1.data.toList [43, 45] with
    | true =>
      obtain ⟨s2, hs2, H2⟩ : ∃ s2 : ByteArray, (∀ w, (Instr.slice 9 (.string s1) (some (.int .i64 1)) none none).run Tryz.prog w = .ok (.string s2) w) ∧ Hid (s2.data.toList = s1.data.toList.drop 1) :=
        ⟨_, slice_one s1 (begin_pos s1 _ hq), Lib.hid rfl⟩
      have HC := Lib.hid (show cutDigitsP s2.data.toList = cutExponentP s.data.toList by unfold cutExponentP; rw [hp, H2.out]; unfold signCut; rw [← H1.out, hq]; rfl)
      go_enter Tryz.func272, Tryz.ntmps272
      go_wp2_with fail
      refine (beginsWith_any _ _ _).mono ?_
      rintro e w' ⟨rfl, rfl⟩
      go_wp2_with fail
      refine (beginsWith_any _ _ _).mono ?_
      rintro e w' ⟨rfl, rfl⟩
      go_wp2_with fail
      refine (cutDigits_any _ _).mono ?_
      rintro e w1 ⟨rfl, hb⟩
      go_wp2_with fail
      go_ret2
      exact strBool_of HC.out hb
    | false =>
      have HC := Lib.hid (show cutDigitsP s1.data.toList = cutExponentP s.data.toList by unfold cutExponentP; rw [hp]; unfold signCut; rw [← H1.out, hq]; rfl)
      go_enter Tryz.func272, Tryz.ntmps272
      go_wp2_with fail
      refine (beginsWith_any _ _ _).mono ?_
      rintro e w' ⟨rfl, rfl⟩
      go_wp2_with fail
      refine (beginsWith_any _ _ _).mono ?_
      rintro e w' ⟨rfl, rfl⟩
      go_wp2_with fail
      refine (cutDigits_any _ _).mono ?_
      rintro e w1 ⟨rfl, hb⟩
      go_wp2_with fail
      go_ret2
      exact strBool_of HC.out hb
  | false =>
    have HC := Lib.hid (show (s.data.toList, true) = cutExponentP s.data.toList by unfold cutExponentP; rw [hp]; rfl)
    go_enter Tryz.func272, Tryz.ntmps272
    go_wp2_with fail
    refine (beginsWith_any _ _ _).mono ?_
    rintro e w' ⟨rfl, rfl⟩
    go_wp2_with fail
    go_ret2
    have h := strBool_of HC.out (Below.refl w.heap.size w)
    rw [of_list] at h
    exact h

def NumIs (l : List UInt8) (w : World) (e : Ending) (w' : World) : Prop := e = .returned (.tuple #[.bool (numWhole l), .bool (numOk l)]) ∧ Below w.heap.size w w'

theorem numIs_of {l : List UInt8} {a b : Bool} {w w' : World} (h1 : a = numWhole l) (h2 : b = numOk l) (hb : Below w.heap.size w w') : NumIs l w (.returned (.tuple #[.bool a, .bool b])) w' := by
  subst h1 h2; exact ⟨rfl, hb⟩

set_option maxHeartbeats 400000 in
theorem number_any (s : ByteArray) (w : World) :
    Calls Tryz.prog 224 #[.string s] w (NumIs s.data.toList w) := by
  by_cases h40 : s.size ≤ 40
  · have hd : decide ((40 : Int) < (s.size : Int)) = false := by simp; omega
    have HO := Lib.hid (show numOk s.data.toList = ((numW s.data.toList).2 && (numF s.data.toList).2 && (numE s.data.toList).2 && (numE s.data.toList).1.isEmpty) by
      unfold numOk; rw [show decide (s.data.toList.length ≤ 40) = true from decide_eq_true (by rw [← Lib.size_eq]; exact h40), Bool.true_and])
    clear h40
    go_enter Tryz.func224, Tryz.ntmps224
    go_wp2_with fail
    refine (turnW (Tryz.strings_TrimPrefix _ _ _)).mono ?_
    rintro e w' ⟨rfl, rfl⟩
    go_wp2_with fail
    refine (cutWhole_any _ _).mono ?_
    rintro e w1 ⟨rfl, b1⟩
    generalize hW : cutWholeP _ = pW
    obtain ⟨lW, oW⟩ := pW
    have HW : Hid (numW s.data.toList = (lW, oW)) := Lib.hid hW
    clear hW
    go_wp2_with fail
    refine (cutFraction_any _ _).mono ?_
    rintro e w2 ⟨rfl, b2⟩
    generalize hF : cutFractionP _ = pF
    obtain ⟨lF, oF⟩ := pF
    have HF : Hid (numF s.data.toList = (lF, oF)) := Lib.hid (by unfold numF; rw [HW.out]; exact hF)
    clear hF
    go_wp2_with fail
    refine (cutExponent_any _ _).mono ?_
    rintro e w3 ⟨rfl, b3⟩
    generalize hE : cutExponentP _ = pE
    obtain ⟨lE, oE⟩ := pE
    have HE : Hid (numE s.data.toList = (lE, oE)) := Lib.hid (by unfold numE; rw [HF.out]; exact hE)
    clear hE
    have hbb : Below w.heap.size w w3 := (b1.trans (b2.mono b1.size)).trans (b3.mono (Nat.le_trans b1.size b2.size))
    have HN : Hid (numOk s.data.toList = (oW && oF && oE && lE.isEmpty)) := Lib.hid (by rw [HO.out, HW.out, HF.out, HE.out])
    have HM : Hid (numWhole s.data.toList = (oW && oF && oE && lE.isEmpty && lW.isEmpty)) := Lib.hid (by unfold numWhole; rw [HN.out, HW.out])
    clear HO HW HF HE b1 b2 b3
    cases oW with
    | false =>
      go_wp2_with fail
      go_ret2
      exact numIs_of (by rw [HM.out]; rfl) (by rw [HN.out]; rfl) hbb
    | true =>
      cases oF with
      | false =>
        go_wp2_with fail
        go_ret2
        exact numIs_of (by rw [HM.out]; rfl) (by rw [HN.out]; rfl) hbb
      | true =>
        cases oE with
        | false =>
          go_wp2_with fail
          go_ret2
          exact numIs_of (by rw [HM.out]; rfl) (by rw [HN.out]; rfl) hbb
        | true =>
          cases lE with
          | cons b r =>
            go_wp2_with fail
            go_ret2
            exact numIs_of (by rw [HM.out]; rfl) (by rw [HN.out]; rfl) hbb
          | nil =>
            cases lW with
            | nil =>
              go_wp2_with fail
              go_ret2
              exact numIs_of (by rw [HM.out]; rfl) (by rw [HN.out]; rfl) hbb
            | cons b r =>
              go_wp2_with fail
              go_ret2
              exact numIs_of (by rw [HM.out]; rfl) (by rw [HN.out]; rfl) hbb
  · have hd : decide ((40 : Int) < (s.size : Int)) = true := by simp; omega
    have HO := Lib.hid (show numOk s.data.toList = false by unfold numOk; rw [show decide (s.data.toList.length ≤ 40) = false from decide_eq_false (by rw [← Lib.size_eq]; exact h40), Bool.false_and])
    clear h40
    go_enter Tryz.func224, Tryz.ntmps224
    go_wp2_with fail
    go_ret2
    exact numIs_of (by unfold numWhole; rw [HO.out, Bool.false_and]) HO.out.symm (Below.refl _ _)

end Go.Proofs.YtkahnlgedacppaaGreatDoor
/-
  What runes.isLetter, runes.isDigit and runes.Name answer: at every rune, at every string of at most maxLen bytes.
-/
namespace Go.Proofs.YtkahnlgedacppaaGreatDoor
open Go.RowKit

set_option maxHeartbeats 400000 in
theorem isLetter_any (c : Int) (w : World) :
    Calls Tryz.prog 103 #[.int .i32 c] w fun e w' => e = .returned (.bool (letB c)) ∧ w = w' := by
  go_enter Tryz.func103, Tryz.ntmps103
  go_wp2
  all_goals
    go_ret
    refine ⟨ret_bool ?_, rfl⟩
    rw [Bool.eq_iff_iff]
    simp [letB]
    try omega

set_option maxHeartbeats 400000 in
theorem isDigit_any (c : Int) (w : World) :
    Calls Tryz.prog 104 #[.int .i32 c] w fun e w' => e = .returned (.bool (digB c)) ∧ w = w' := by
  go_enter Tryz.func104, Tryz.ntmps104
  go_wp2
  all_goals
    go_ret
    refine ⟨ret_bool ?_, rfl⟩
    rw [Bool.eq_iff_iff]
    simp [digB]
    try omega

/-- One letter of a name, at place i. -/
def nameOk (i : Nat) (c : Int) : Bool := letB c || (i != 0 && digB c)
def nameGo : Nat → List UInt8 → Bool
  | _, [] => true
  | i, c :: r => nameOk i c.toNat && nameGo (i + 1) r
def nameB (l : List UInt8) : Bool := decide (1 ≤ l.length) && decide (l.length ≤ 40) && nameGo 0 l

theorem nameOk_high (i : Nat) (c : Int) (h : 128 ≤ c) : nameOk i c = false := by
  simp [nameOk, letB, digB]; omega

/-- What one round of a range over a string sees at a byte. -/
theorem nameGo_step (s : ByteArray) (pos : Nat) (h : pos < s.size) : nameGo pos (s.data.toList.drop pos) = (nameOk pos (Utf8.decode s pos).1 && nameGo (pos + 1) (s.data.toList.drop (pos + 1))) := by
  rw [drop_cons s pos h]
  by_cases ha : s[pos].toNat < 128
  · rw [decode_ascii s pos h ha]; rfl
  · have hh := (decode_high s pos h (by omega)).1
    rw [nameOk_high pos _ (by omega)]
    simp only [nameGo]
    rw [nameOk_high pos _ (by omega), Bool.false_and]

theorem width_one (s : ByteArray) (pos : Nat) (h : pos < s.size) (hk : nameOk pos (Utf8.decode s pos).1 = true) : (Utf8.decode s pos).2 = 1 := by
  by_cases ha : s[pos].toNat < 128
  · rw [decode_ascii s pos h ha]
  · have hh := (decode_high s pos h (by omega)).1
    rw [nameOk_high pos _ (by omega)] at hk
    cases hk

set_option maxHeartbeats 1000000 in
theorem name_any (s : ByteArray) (w : World) (hs : s.size ≤ maxLen) :
    Calls Tryz.prog 56 #[.string s] w fun e w' => e = .returned (.bool (nameB s.data.toList)) ∧ Below w.heap.size w w' := by
  unfold maxLen at hs
  by_cases hlo : s.size < 1
  · go_enter Tryz.func56, Tryz.ntmps56
    go_wp2
    go_ret
    exact ⟨ret_bool (by simp [nameB]; omega), Below.refl _ _⟩
  · by_cases hhi : 40 < s.size
    · go_enter Tryz.func56, Tryz.ntmps56
      go_wp2
      go_ret
      exact ⟨ret_bool (by simp [nameB]; omega), Below.refl _ _⟩
    · have HB : Hid (nameB s.data.toList = nameGo 0 s.data.toList) := by
        refine Lib.hid ?_
        simp [nameB]; omega
      have hd1 : decide ((s.size : Int) < 1) = false := by simp; omega
      have hd2 : decide ((40 : Int) < (s.size : Int)) = false := by simp; omega
      go_enter Tryz.func56, Tryz.ntmps56
      go_wp2
      go_loopw [] (fun wr => ∃ pos : Nat, wr.heap[w.heap.size]? = some (.stringIter s pos) ∧ Below w.heap.size w wr ∧ Hid (nameGo 0 s.data.toList = nameGo pos (s.data.toList.drop pos))) (fun wr => s.size - wr.iterPos w.heap.size)
      case atStart =>
        exact ⟨0, World.iter_heap w s 0, (Below.refl _ w).alloc (Nat.le_refl _) _, Lib.hid rfl⟩
      case round =>
        obtain ⟨pos, hit, hbw, HG⟩ := hrel
        by_cases hp : pos < s.size
        · have hnx : ∀ ty, (Instr.next (.pointer (some ⟨w.heap.size, 0, none⟩)) true ty).run Tryz.prog wr = _ := fun ty => Lib.run_next_any_at wr w.heap.size s pos ty hit hp
          have HS := Lib.hid (nameGo_step s pos hp)
          have HW := Lib.hid (width_one s pos hp)
          have hbw2 := Lib.below_iterAt hbw (Nat.le_refl _) s (pos + (Utf8.decode s pos).2)
          have HI := Lib.hid (Lib.iterAt_heap wr w.heap.size s pos (pos + (Utf8.decode s pos).2) hit)
          have HT := Lib.hid hit
          by_cases hl : letB (Utf8.decode s pos).1 = true
          · go_wp2_with (first | ((go_at_call 103); (with_reducible refine (isLetter_any _ _).mono ?_); rintro e w' ⟨rfl, rfl⟩) | ((go_at_call 104); (with_reducible refine (isDigit_any _ _).mono ?_); rintro e w' ⟨rfl, rfl⟩))
            have hk : nameOk pos (Utf8.decode s pos).1 = true := by simp [nameOk, hl]
            go_roundw
            case rel =>
              exact ⟨pos + 1, by rw [← HW.out hk]; exact HI.out, hbw2, Lib.hid (by rw [HG.out, HS.out, hk, Bool.true_and])⟩
            case measure =>
              have e1 := iterPos_of HI.out
              have e2 := iterPos_of HT.out
              have e3 := HW.out hk
              omega
          · have hl' : letB (Utf8.decode s pos).1 = false := by simpa using hl
            clear hl
            by_cases hz : pos = 0
            · have hz' : ((pos : Int) == 0) = true := by simp [hz]
              have HK := Lib.hid (show nameOk pos (Utf8.decode s pos).1 = false by unfold nameOk; rw [hl', hz]; rfl)
              clear hz
              go_wp2_with (first | ((go_at_call 103); (with_reducible refine (isLetter_any _ _).mono ?_); rintro e w' ⟨rfl, rfl⟩) | ((go_at_call 104); (with_reducible refine (isDigit_any _ _).mono ?_); rintro e w' ⟨rfl, rfl⟩))
              go_ret
              exact ⟨ret_bool (by rw [HB.out, HG.out, HS.out, HK.out, Bool.false_and]), hbw2⟩
            · have hz' : ((pos : Int) == 0) = false := by simp; omega
              by_cases hg : digB (Utf8.decode s pos).1 = true
              · go_wp2_with (first | ((go_at_call 103); (with_reducible refine (isLetter_any _ _).mono ?_); rintro e w' ⟨rfl, rfl⟩) | ((go_at_call 104); (with_reducible refine (isDigit_any _ _).mono ?_); rintro e w' ⟨rfl, rfl⟩))
                have hk : nameOk pos (Utf8.decode s pos).1 = true := by simp [nameOk, hg, hz]
                go_roundw
                case rel =>
                  exact ⟨pos + 1, by rw [← HW.out hk]; exact HI.out, hbw2, Lib.hid (by rw [HG.out, HS.out, hk, Bool.true_and])⟩
                case measure =>
                  have e1 := iterPos_of HI.out
                  have e2 := iterPos_of HT.out
                  have e3 := HW.out hk
                  omega
              · have hg' : digB (Utf8.decode s pos).1 = false := by simpa using hg
                clear hg
                have HK := Lib.hid (show nameOk pos (Utf8.decode s pos).1 = false by simp [nameOk, hl', hg'])
                go_wp2_with (first | ((go_at_call 103); (with_reducible refine (isLetter_any _ _).mono ?_); rintro e w' ⟨rfl, rfl⟩) | ((go_at_call 104); (with_reducible refine (isDigit_any _ _).mono ?_); rintro e w' ⟨rfl, rfl⟩))
                go_ret
                exact ⟨ret_bool (by rw [HB.out, HG.out, HS.out, HK.out, Bool.false_and]), hbw2⟩
        · have hnx : ∀ ty, (Instr.next (.pointer (some ⟨w.heap.size, 0, none⟩)) true ty).run Tryz.prog wr = _ := fun ty => Lib.run_next_end_at wr w.heap.size s pos ty hit hp
          go_wp2
          go_ret
          exact ⟨ret_bool (by rw [HB.out, HG.out, List.drop_of_length_le (by simp; omega)]; rfl), hbw⟩

end Go.Proofs.YtkahnlgedacppaaGreatDoor
/-
  What runes.writeQuoted and runes.Quote answer.
-/
namespace Go.Proofs.YtkahnlgedacppaaGreatDoor
open Go.RowKit

def StrBelow (w : World) (l : List UInt8) (e : Ending) (w' : World) : Prop := e = .returned (.string ⟨l.toArray⟩) ∧ Below w.heap.size w w'

theorem strBelow_mk {w w' : World} {l l' : List UInt8} (h : l = l') (hb : Below w.heap.size w w') : StrBelow w l' (.returned (.string ⟨l.toArray⟩)) w' := by
  subst h; exact ⟨rfl, hb⟩

theorem decode_rune_le (s : ByteArray) (pos : Nat) : (Utf8.decode s pos).1 ≤ 1114111 := by
  rw [← Lib.decodeL_drop]; exact Lib.decodeL_rune _

end Go.Proofs.YtkahnlgedacppaaGreatDoor
