/-
  What refectoryref01.one answers.
-/
import Derived.Test.YtakmkhkbeabgcaaDoorRef5
namespace Go.Proofs.YtakmkhkbeabgcaaDoor
open Go.RowKit
open Go.Lib (encodeRune)

def oneR : Option (List UInt8 × Nat) → Value
  | none => .tuple #[.string ⟨#[]⟩, .int .i64 0]
  | some p => .tuple #[.string ⟨p.1.toArray⟩, .int .i64 p.2]
def OnePost (w : World) (o : Option (List UInt8 × Nat)) (e : Ending) (w' : World) : Prop := Below w.heap.size w w' ∧ e = .returned (oneR o)

theorem one_no {w w' : World} {o : Option (List UInt8 × Nat)} (h : o = none) (hb : Below w.heap.size w w') : OnePost w o (.returned (.tuple #[.string ⟨#[]⟩, .int .i64 0])) w' := by subst h; exact ⟨hb, rfl⟩
theorem one_yes {w w' : World} {o : Option (List UInt8 × Nat)} {l : List UInt8} {n : Nat} {T : ByteArray} {N : Int} (h : o = some (l, n)) (hT : T.data.toList = l) (hN : N = n) (hb : Below w.heap.size w w') : OnePost w o (.returned (.tuple #[.string T, .int .i64 N])) w' := by
  subst h; subst hN; subst hT; exact ⟨hb, rfl⟩

theorem oneL_at (s : ByteArray) (i : Nat) (h : i < s.size) : oneL (s.data.toList.drop i) = if by1 s i 0 = 117 then
      (hexL (s.data.toList.drop (i + 1))).bind fun v =>
        if 55296 ≤ v ∧ v ≤ 56319 then
          (if (s.data.toList.drop (i + 5)).take 2 = [92, 117] then
            (hexL (s.data.toList.drop (i + 7))).bind fun w => if 56320 ≤ w ∧ w ≤ 57343 then some (encodeRune (65536 + ((v : Int) - 55296) * 1024 + ((w : Int) - 56320)), 11) else none
          else none)
        else if 56320 ≤ v ∧ v ≤ 57343 then none
        else some (encodeRune v, 5)
    else if ptOf (by1 s i 0) = 0 then none else some ([UInt8.ofNat (ptOf (by1 s i 0)).toNat], 1) := by
  rw [drop_cons s i h, oneL_cons, by1_zero s i h, List.drop_drop, List.drop_drop]

theorem one_end (s : ByteArray) (i : Nat) (h : ¬ i < s.size) : oneL (s.data.toList.drop i) = none := by
  rw [drop_end s i h]; rfl

theorem hexL_of_neg {l : List UInt8} (h : hexI l < 0) : hexL l = none := by
  unfold hexI at h
  cases e : hexL l with
  | none => rfl
  | some v => rw [e] at h; simp only at h; omega
theorem hexL_of_pos {l : List UInt8} (h : 0 ≤ hexI l) : hexL l = some (hexI l).toNat := by
  unfold hexI at h ⊢
  cases e : hexL l with
  | none => rw [e] at h; simp only at h; omega
  | some v => simp
theorem hexI_range (l : List UInt8) : -1 ≤ hexI l ∧ hexI l ≤ 65535 := by
  unfold hexI
  cases e : hexL l with
  | none => simp
  | some v => have := hexL_lt l v e; simp only; omega

theorem take2 (s : ByteArray) (i : Nat) : (s.data.toList.drop (i + 5)).take 2 = [92, 117] ↔ i + 6 < s.size ∧ by1 s i 5 = 92 ∧ by1 s i 6 = 117 := by
  by_cases h : i + 6 < s.size
  · rw [drop_cons s (i + 5) (by omega), drop_cons s (i + 5 + 1) (by omega), ← by1_at s i 5 (by omega), ← by1_at s i 6 (by omega)]
    show [s[i + 5], s[i + 6]] = [92, 117] ↔ _
    constructor
    · intro e
      injection e with e1 e2
      injection e2 with e2 _
      exact ⟨h, by rw [e1]; rfl, by rw [e2]; rfl⟩
    · rintro ⟨_, e1, e2⟩
      rw [show s[i + 5] = 92 from UInt8.toNat_inj.1 e1, show s[i + 6] = 117 from UInt8.toNat_inj.1 e2]
  · constructor
    · intro e
      have := congrArg List.length e
      rw [List.length_take, len_drop] at this
      simp at this
      omega
    · intro e; omega

theorem u_none (s : ByteArray) (i : Nat) (h : i < s.size) (hb : by1 s i 0 = 117) (hv : hexI (s.data.toList.drop (i + 1)) < 0) : oneL (s.data.toList.drop i) = none := by
  rw [oneL_at s i h, if_pos hb, hexL_of_neg hv]; rfl
theorem u_plain (s : ByteArray) (i : Nat) (V : Int) (h : i < s.size) (hb : by1 s i 0 = 117) (e : hexI (s.data.toList.drop (i + 1)) = V) (h0 : 0 ≤ V) (hh : ¬ (55296 ≤ V ∧ V ≤ 57343)) : oneL (s.data.toList.drop i) = some (encodeRune V, 5) := by
  subst e
  rw [oneL_at s i h, if_pos hb, hexL_of_pos h0, Option.bind_some, if_neg (by omega), if_neg (by omega), Int.toNat_of_nonneg h0]
theorem u_second (s : ByteArray) (i : Nat) (V : Int) (h : i < s.size) (hb : by1 s i 0 = 117) (e : hexI (s.data.toList.drop (i + 1)) = V) (hh : 56320 ≤ V ∧ V ≤ 57343) : oneL (s.data.toList.drop i) = none := by
  subst e
  rw [oneL_at s i h, if_pos hb, hexL_of_pos (by omega), Option.bind_some, if_neg (by omega), if_pos (by omega)]
theorem u_alone (s : ByteArray) (i : Nat) (V : Int) (h : i < s.size) (hb : by1 s i 0 = 117) (e : hexI (s.data.toList.drop (i + 1)) = V) (hh : 55296 ≤ V ∧ V ≤ 56319) (ht : ¬ (i + 6 < s.size ∧ by1 s i 5 = 92 ∧ by1 s i 6 = 117)) : oneL (s.data.toList.drop i) = none := by
  subst e
  rw [oneL_at s i h, if_pos hb, hexL_of_pos (by omega), Option.bind_some, if_pos (by omega), if_neg (fun x => ht ((take2 s i).1 x))]
theorem u_two (s : ByteArray) (i : Nat) (V W : Int) (h : i < s.size) (hb : by1 s i 0 = 117) (e : hexI (s.data.toList.drop (i + 1)) = V) (hh : 55296 ≤ V ∧ V ≤ 56319) (ht : i + 6 < s.size ∧ by1 s i 5 = 92 ∧ by1 s i 6 = 117) (e2 : hexI (s.data.toList.drop (i + 7)) = W) (hw : 56320 ≤ W ∧ W ≤ 57343) : oneL (s.data.toList.drop i) = some (encodeRune (65536 + (V - 55296) * 1024 + W - 56320), 11) := by
  subst e
  subst e2
  rw [oneL_at s i h, if_pos hb, hexL_of_pos (by omega), Option.bind_some, if_pos (by omega), if_pos ((take2 s i).2 ht), hexL_of_pos (l := s.data.toList.drop (i + 7)) (by omega), Option.bind_some, if_pos (by omega)]
  congr 3
  omega
theorem u_odd (s : ByteArray) (i : Nat) (V W : Int) (h : i < s.size) (hb : by1 s i 0 = 117) (e : hexI (s.data.toList.drop (i + 1)) = V) (hh : 55296 ≤ V ∧ V ≤ 56319) (ht : i + 6 < s.size ∧ by1 s i 5 = 92 ∧ by1 s i 6 = 117) (e2 : hexI (s.data.toList.drop (i + 7)) = W) (hw : ¬ (56320 ≤ W ∧ W ≤ 57343)) : oneL (s.data.toList.drop i) = none := by
  subst e
  subst e2
  rw [oneL_at s i h, if_pos hb, hexL_of_pos (by omega), Option.bind_some, if_pos (by omega), if_pos ((take2 s i).2 ht)]
  by_cases hn : hexI (s.data.toList.drop (i + 7)) < 0
  · rw [hexL_of_neg hn]; rfl
  · rw [hexL_of_pos (l := s.data.toList.drop (i + 7)) (by omega), Option.bind_some, if_neg (by omega)]

theorem hexAt_any (s : ByteArray) (x : Int) (n : Nat) (V : Int) (hx : x = n) (hV : hexI (s.data.toList.drop n) = V) (w : World) (hs : s.size ≤ 1000000000) (hn : n ≤ 2000000000) :
    Calls Tryd.prog 91 #[.string s, .int .i64 x] w fun e w' => e = .returned (.int .i64 V) ∧ w = w' := by
  subst hx
  subst hV
  exact hex_any s n w hs hn
theorem bytes_at (x : Int) (w : World) (h0 : 0 ≤ x) (h : x < 1114112) (hh : ¬ (55296 ≤ x ∧ x ≤ 57343)) :
    Calls Tryd.prog 92 #[.int .i64 x] w (StrBelow w (encodeRune x)) := by
  obtain ⟨v, rfl⟩ := Int.eq_ofNat_of_zero_le h0
  exact bytes_any v w (by omega) (by omega)

theorem one_beyond (s : ByteArray) (i : Nat) (w : World) (h : ¬ i < s.size) :
    Calls Tryd.prog 74 #[.string s, .int .i64 i] w (OnePost w (oneL (s.data.toList.drop i))) := by
  have HE := Lib.hid (one_end s i h)
  have f0 : decide ((s.size : Int) ≤ (i : Int)) = true := by simp; omega
  go_enter Tryd.func74, Tryd.ntmps74
  go_wp2_with fail
  go_ret2
  exact one_no HE.out (Below.refl _ _)

set_option maxHeartbeats 2000000 in
set_option maxRecDepth 100000 in
theorem one_34 (s : ByteArray) (i : Nat) (w : World) (hs : s.size ≤ 1000000000) (h : i < s.size) (hc : by1 s i 0 = 34) :
    Calls Tryd.prog 74 #[.string s, .int .i64 i] w (OnePost w (oneL (s.data.toList.drop i))) := by
  have f0 : decide ((s.size : Int) ≤ (i : Int)) = false := by simp; omega
  have hb0 := by1_zero s i h
  have HE := Lib.hid (show oneL (s.data.toList.drop i) = some ([34], 1) by
    rw [oneL_at s i h, if_neg (by omega), hc]
    rfl)
  have HX := Lib.hid (show (s.extract i (i + 1)).data.toList = [34] by
    rw [ext_one s i h, show s[i] = 34 from UInt8.toNat_inj.1 (by rw [hb0, hc]; rfl)])
  have hsx : (Instr.slice 9 (.string s) (some (.int .i64 (i : Int))) (some (.int .i64 ((i : Int) + 1))) none).run Tryd.prog w = .ok (.string (s.extract i (i + 1))) w := by
    rw [run_slice_string_if _ _ _ _ _ _ _ Tryd.underlying9, if_pos (by omega), if_pos (by omega)]
    have e : ((i : Int) + 1).toNat = i + 1 := by omega
    rw [e]
    rfl
  generalize by1 s i 0 = B at *
  have g34 : ((B : Int) == 34) = true := by simp; omega
  clear hc
  go_enter Tryd.func74, Tryd.ntmps74
  go_wp2_with fail
  go_ret2
  exact one_yes HE.out HX.out rfl (Below.refl _ _)

set_option maxHeartbeats 2000000 in
set_option maxRecDepth 100000 in
theorem one_92 (s : ByteArray) (i : Nat) (w : World) (hs : s.size ≤ 1000000000) (h : i < s.size) (hc : by1 s i 0 = 92) :
    Calls Tryd.prog 74 #[.string s, .int .i64 i] w (OnePost w (oneL (s.data.toList.drop i))) := by
  have f0 : decide ((s.size : Int) ≤ (i : Int)) = false := by simp; omega
  have hb0 := by1_zero s i h
  have HE := Lib.hid (show oneL (s.data.toList.drop i) = some ([92], 1) by
    rw [oneL_at s i h, if_neg (by omega), hc]
    rfl)
  have HX := Lib.hid (show (s.extract i (i + 1)).data.toList = [92] by
    rw [ext_one s i h, show s[i] = 92 from UInt8.toNat_inj.1 (by rw [hb0, hc]; rfl)])
  have hsx : (Instr.slice 9 (.string s) (some (.int .i64 (i : Int))) (some (.int .i64 ((i : Int) + 1))) none).run Tryd.prog w = .ok (.string (s.extract i (i + 1))) w := by
    rw [run_slice_string_if _ _ _ _ _ _ _ Tryd.underlying9, if_pos (by omega), if_pos (by omega)]
    have e : ((i : Int) + 1).toNat = i + 1 := by omega
    rw [e]
    rfl
  generalize by1 s i 0 = B at *
  have g34 : ((B : Int) == 34) = false := by simp; omega
  have g92 : ((B : Int) == 92) = true := by simp; omega
  clear hc
  go_enter Tryd.func74, Tryd.ntmps74
  go_wp2_with fail
  go_ret2
  exact one_yes HE.out HX.out rfl (Below.refl _ _)

set_option maxHeartbeats 2000000 in
set_option maxRecDepth 100000 in
theorem one_47 (s : ByteArray) (i : Nat) (w : World) (hs : s.size ≤ 1000000000) (h : i < s.size) (hc : by1 s i 0 = 47) :
    Calls Tryd.prog 74 #[.string s, .int .i64 i] w (OnePost w (oneL (s.data.toList.drop i))) := by
  have f0 : decide ((s.size : Int) ≤ (i : Int)) = false := by simp; omega
  have hb0 := by1_zero s i h
  have HE := Lib.hid (show oneL (s.data.toList.drop i) = some ([47], 1) by
    rw [oneL_at s i h, if_neg (by omega), hc]
    rfl)
  have HX := Lib.hid (show (s.extract i (i + 1)).data.toList = [47] by
    rw [ext_one s i h, show s[i] = 47 from UInt8.toNat_inj.1 (by rw [hb0, hc]; rfl)])
  have hsx : (Instr.slice 9 (.string s) (some (.int .i64 (i : Int))) (some (.int .i64 ((i : Int) + 1))) none).run Tryd.prog w = .ok (.string (s.extract i (i + 1))) w := by
    rw [run_slice_string_if _ _ _ _ _ _ _ Tryd.underlying9, if_pos (by omega), if_pos (by omega)]
    have e : ((i : Int) + 1).toNat = i + 1 := by omega
    rw [e]
    rfl
  generalize by1 s i 0 = B at *
  have g34 : ((B : Int) == 34) = false := by simp; omega
  have g92 : ((B : Int) == 92) = false := by simp; omega
  have g47 : ((B : Int) == 47) = true := by simp; omega
  clear hc
  go_enter Tryd.func74, Tryd.ntmps74
  go_wp2_with fail
  go_ret2
  exact one_yes HE.out HX.out rfl (Below.refl _ _)

set_option maxHeartbeats 2000000 in
set_option maxRecDepth 100000 in
theorem one_98 (s : ByteArray) (i : Nat) (w : World) (_hs : s.size ≤ 1000000000) (h : i < s.size) (hc : by1 s i 0 = 98) :
    Calls Tryd.prog 74 #[.string s, .int .i64 i] w (OnePost w (oneL (s.data.toList.drop i))) := by
  have f0 : decide ((s.size : Int) ≤ (i : Int)) = false := by simp; omega
  have hb0 := by1_zero s i h
  have HE := Lib.hid (show oneL (s.data.toList.drop i) = some ([8], 1) by
    rw [oneL_at s i h, if_neg (by omega), hc]
    rfl)
  generalize by1 s i 0 = B at *
  have g34 : ((B : Int) == 34) = false := by simp; omega
  have g92 : ((B : Int) == 92) = false := by simp; omega
  have g47 : ((B : Int) == 47) = false := by simp; omega
  have g98 : ((B : Int) == 98) = true := by simp; omega
  clear hc
  go_enter Tryd.func74, Tryd.ntmps74
  go_wp2_with fail
  go_ret2
  exact one_yes HE.out rfl rfl (Below.refl _ _)

set_option maxHeartbeats 2000000 in
set_option maxRecDepth 100000 in
theorem one_102 (s : ByteArray) (i : Nat) (w : World) (_hs : s.size ≤ 1000000000) (h : i < s.size) (hc : by1 s i 0 = 102) :
    Calls Tryd.prog 74 #[.string s, .int .i64 i] w (OnePost w (oneL (s.data.toList.drop i))) := by
  have f0 : decide ((s.size : Int) ≤ (i : Int)) = false := by simp; omega
  have hb0 := by1_zero s i h
  have HE := Lib.hid (show oneL (s.data.toList.drop i) = some ([12], 1) by
    rw [oneL_at s i h, if_neg (by omega), hc]
    rfl)
  generalize by1 s i 0 = B at *
  have g34 : ((B : Int) == 34) = false := by simp; omega
  have g92 : ((B : Int) == 92) = false := by simp; omega
  have g47 : ((B : Int) == 47) = false := by simp; omega
  have g98 : ((B : Int) == 98) = false := by simp; omega
  have g102 : ((B : Int) == 102) = true := by simp; omega
  clear hc
  go_enter Tryd.func74, Tryd.ntmps74
  go_wp2_with fail
  go_ret2
  exact one_yes HE.out rfl rfl (Below.refl _ _)

set_option maxHeartbeats 2000000 in
set_option maxRecDepth 100000 in
theorem one_110 (s : ByteArray) (i : Nat) (w : World) (_hs : s.size ≤ 1000000000) (h : i < s.size) (hc : by1 s i 0 = 110) :
    Calls Tryd.prog 74 #[.string s, .int .i64 i] w (OnePost w (oneL (s.data.toList.drop i))) := by
  have f0 : decide ((s.size : Int) ≤ (i : Int)) = false := by simp; omega
  have hb0 := by1_zero s i h
  have HE := Lib.hid (show oneL (s.data.toList.drop i) = some ([10], 1) by
    rw [oneL_at s i h, if_neg (by omega), hc]
    rfl)
  generalize by1 s i 0 = B at *
  have g34 : ((B : Int) == 34) = false := by simp; omega
  have g92 : ((B : Int) == 92) = false := by simp; omega
  have g47 : ((B : Int) == 47) = false := by simp; omega
  have g98 : ((B : Int) == 98) = false := by simp; omega
  have g102 : ((B : Int) == 102) = false := by simp; omega
  have g110 : ((B : Int) == 110) = true := by simp; omega
  clear hc
  go_enter Tryd.func74, Tryd.ntmps74
  go_wp2_with fail
  go_ret2
  exact one_yes HE.out rfl rfl (Below.refl _ _)

set_option maxHeartbeats 2000000 in
set_option maxRecDepth 100000 in
theorem one_114 (s : ByteArray) (i : Nat) (w : World) (_hs : s.size ≤ 1000000000) (h : i < s.size) (hc : by1 s i 0 = 114) :
    Calls Tryd.prog 74 #[.string s, .int .i64 i] w (OnePost w (oneL (s.data.toList.drop i))) := by
  have f0 : decide ((s.size : Int) ≤ (i : Int)) = false := by simp; omega
  have hb0 := by1_zero s i h
  have HE := Lib.hid (show oneL (s.data.toList.drop i) = some ([13], 1) by
    rw [oneL_at s i h, if_neg (by omega), hc]
    rfl)
  generalize by1 s i 0 = B at *
  have g34 : ((B : Int) == 34) = false := by simp; omega
  have g92 : ((B : Int) == 92) = false := by simp; omega
  have g47 : ((B : Int) == 47) = false := by simp; omega
  have g98 : ((B : Int) == 98) = false := by simp; omega
  have g102 : ((B : Int) == 102) = false := by simp; omega
  have g110 : ((B : Int) == 110) = false := by simp; omega
  have g114 : ((B : Int) == 114) = true := by simp; omega
  clear hc
  go_enter Tryd.func74, Tryd.ntmps74
  go_wp2_with fail
  go_ret2
  exact one_yes HE.out rfl rfl (Below.refl _ _)

set_option maxHeartbeats 2000000 in
set_option maxRecDepth 100000 in
theorem one_116 (s : ByteArray) (i : Nat) (w : World) (_hs : s.size ≤ 1000000000) (h : i < s.size) (hc : by1 s i 0 = 116) :
    Calls Tryd.prog 74 #[.string s, .int .i64 i] w (OnePost w (oneL (s.data.toList.drop i))) := by
  have f0 : decide ((s.size : Int) ≤ (i : Int)) = false := by simp; omega
  have hb0 := by1_zero s i h
  have HE := Lib.hid (show oneL (s.data.toList.drop i) = some ([9], 1) by
    rw [oneL_at s i h, if_neg (by omega), hc]
    rfl)
  generalize by1 s i 0 = B at *
  have g34 : ((B : Int) == 34) = false := by simp; omega
  have g92 : ((B : Int) == 92) = false := by simp; omega
  have g47 : ((B : Int) == 47) = false := by simp; omega
  have g98 : ((B : Int) == 98) = false := by simp; omega
  have g102 : ((B : Int) == 102) = false := by simp; omega
  have g110 : ((B : Int) == 110) = false := by simp; omega
  have g114 : ((B : Int) == 114) = false := by simp; omega
  have g116 : ((B : Int) == 116) = true := by simp; omega
  clear hc
  go_enter Tryd.func74, Tryd.ntmps74
  go_wp2_with fail
  go_ret2
  exact one_yes HE.out rfl rfl (Below.refl _ _)

set_option maxHeartbeats 2000000 in
set_option maxRecDepth 100000 in
theorem one_other (s : ByteArray) (i : Nat) (w : World) (_hs : s.size ≤ 1000000000) (h : i < s.size) (hc : by1 s i 0 ≠ 34 ∧ by1 s i 0 ≠ 92 ∧ by1 s i 0 ≠ 47 ∧ by1 s i 0 ≠ 98 ∧ by1 s i 0 ≠ 102 ∧ by1 s i 0 ≠ 110 ∧ by1 s i 0 ≠ 114 ∧ by1 s i 0 ≠ 116 ∧ by1 s i 0 ≠ 117) :
    Calls Tryd.prog 74 #[.string s, .int .i64 i] w (OnePost w (oneL (s.data.toList.drop i))) := by
  have f0 : decide ((s.size : Int) ≤ (i : Int)) = false := by simp; omega
  have hb0 := by1_zero s i h
  have HE := Lib.hid (show oneL (s.data.toList.drop i) = none by
    rw [oneL_at s i h, if_neg (by omega), if_pos]
    unfold ptOf
    rw [if_neg (by omega), if_neg (by omega), if_neg (by omega), if_neg (by omega), if_neg (by omega), if_neg (by omega)])
  generalize by1 s i 0 = B at *
  have g34 : ((B : Int) == 34) = false := by simp; omega
  have g92 : ((B : Int) == 92) = false := by simp; omega
  have g47 : ((B : Int) == 47) = false := by simp; omega
  have g98 : ((B : Int) == 98) = false := by simp; omega
  have g102 : ((B : Int) == 102) = false := by simp; omega
  have g110 : ((B : Int) == 110) = false := by simp; omega
  have g114 : ((B : Int) == 114) = false := by simp; omega
  have g116 : ((B : Int) == 116) = false := by simp; omega
  have g117 : ((B : Int) == 117) = false := by simp; omega
  clear hc
  go_enter Tryd.func74, Tryd.ntmps74
  go_wp2_with fail
  go_ret2
  exact one_no HE.out (Below.refl _ _)

set_option maxHeartbeats 4000000 in
set_option maxRecDepth 100000 in
theorem one_117 (s : ByteArray) (i : Nat) (w : World) (hs : s.size ≤ 1000000000) (h : i < s.size) (hc : by1 s i 0 = 117) :
    Calls Tryd.prog 74 #[.string s, .int .i64 i] w (OnePost w (oneL (s.data.toList.drop i))) := by
  have f0 : decide ((s.size : Int) ≤ (i : Int)) = false := by simp; omega
  have hb0 := by1_zero s i h
  obtain ⟨V, hV⟩ : ∃ V, hexI (s.data.toList.drop (i + 1)) = V := ⟨_, rfl⟩
  have hr := hexI_range (s.data.toList.drop (i + 1))
  rw [hV] at hr
  have HV := Lib.hid hV
  have HC := Lib.hid hc
  obtain ⟨B, hB⟩ : ∃ B, by1 s i 0 = B := ⟨_, rfl⟩
  rw [hB] at hb0 hc
  have g34 : ((B : Int) == 34) = false := by simp; omega
  have g92 : ((B : Int) == 92) = false := by simp; omega
  have g47 : ((B : Int) == 47) = false := by simp; omega
  have g98 : ((B : Int) == 98) = false := by simp; omega
  have g102 : ((B : Int) == 102) = false := by simp; omega
  have g110 : ((B : Int) == 110) = false := by simp; omega
  have g114 : ((B : Int) == 114) = false := by simp; omega
  have g116 : ((B : Int) == 116) = false := by simp; omega
  have g117 : ((B : Int) == 117) = true := by simp; omega
  clear hc hB
  clear hV
  by_cases v1 : 55296 ≤ V
  · have k1 : decide ((55296 : Int) ≤ V) = true := by simp; omega
    have k0 : decide (V < 0) = false := by simp; omega
    by_cases v2 : V ≤ 56319
    · have k2 : decide (V ≤ 56319) = true := by simp; omega
      have k3 : decide (V ≤ 57343) = true := by simp; omega
      by_cases h6 : i + 6 < s.size
      · have k6 : decide ((i : Int) + 6 < (s.size : Int)) = true := by simp; omega
        have h5 : i + 5 < s.size := by omega
        have b5 := by1_at s i 5 h5
        have b6 := by1_at s i 6 h6
        by_cases c5 : by1 s i 5 = 92
        · have g5 : ((by1 s i 5 : Int) == 92) = true := by rw [c5]; rfl
          by_cases c6 : by1 s i 6 = 117
          · have g6 : ((by1 s i 6 : Int) == 117) = true := by rw [c6]; rfl
            obtain ⟨W, hW⟩ : ∃ W, hexI (s.data.toList.drop (i + 7)) = W := ⟨_, rfl⟩
            have hrw := hexI_range (s.data.toList.drop (i + 7))
            rw [hW] at hrw
            have HW := Lib.hid hW
            have HT := Lib.hid (show i + 6 < s.size ∧ by1 s i 5 = 92 ∧ by1 s i 6 = 117 from ⟨h6, c5, c6⟩)
            clear hW c5 c6
            obtain ⟨B5, hB5⟩ : ∃ B5, by1 s i 5 = B5 := ⟨_, rfl⟩
            obtain ⟨B6, hB6⟩ : ∃ B6, by1 s i 6 = B6 := ⟨_, rfl⟩
            rw [hB5] at b5 g5
            rw [hB6] at b6 g6
            clear hB5 hB6
            by_cases w1 : 56320 ≤ W
            · have m1 : decide ((56320 : Int) ≤ W) = true := by simp; omega
              by_cases w2 : W ≤ 57343
              · have m2 : decide (W ≤ 57343) = true := by simp; omega
                have HE := Lib.hid (u_two s i V W h HC.out HV.out ⟨v1, v2⟩ HT.out HW.out ⟨w1, w2⟩)
                go_enter Tryd.func74, Tryd.ntmps74
                go_wp2_with fail
                refine (hexAt_any s _ (i + 1) V (by omega) HV.out _ hs (by omega)).mono ?_
                rintro e w1 ⟨rfl, rfl⟩
                go_wp2_with fail
                refine (hexAt_any s _ (i + 7) W (by omega) HW.out _ hs (by omega)).mono ?_
                rintro e w1 ⟨rfl, rfl⟩
                go_wp2_with fail
                refine (bytes_at _ _ (by omega) (by omega) (by omega)).mono ?_
                rintro e w2 ⟨rfl, b2⟩
                go_wp2_with fail
                go_ret2
                exact one_yes HE.out rfl rfl b2
              · have m2 : decide (W ≤ 57343) = false := by simp; omega
                have HE := Lib.hid (u_odd s i V W h HC.out HV.out ⟨v1, v2⟩ HT.out HW.out (by omega))
                go_enter Tryd.func74, Tryd.ntmps74
                go_wp2_with fail
                refine (hexAt_any s _ (i + 1) V (by omega) HV.out _ hs (by omega)).mono ?_
                rintro e w1 ⟨rfl, rfl⟩
                go_wp2_with fail
                refine (hexAt_any s _ (i + 7) W (by omega) HW.out _ hs (by omega)).mono ?_
                rintro e w1 ⟨rfl, rfl⟩
                go_wp2_with fail
                go_ret2
                exact one_no HE.out (Below.refl _ _)
            · have m1 : decide ((56320 : Int) ≤ W) = false := by simp; omega
              have HE := Lib.hid (u_odd s i V W h HC.out HV.out ⟨v1, v2⟩ HT.out HW.out (by omega))
              go_enter Tryd.func74, Tryd.ntmps74
              go_wp2_with fail
              refine (hexAt_any s _ (i + 1) V (by omega) HV.out _ hs (by omega)).mono ?_
              rintro e w1 ⟨rfl, rfl⟩
              go_wp2_with fail
              refine (hexAt_any s _ (i + 7) W (by omega) HW.out _ hs (by omega)).mono ?_
              rintro e w1 ⟨rfl, rfl⟩
              go_wp2_with fail
              go_ret2
              exact one_no HE.out (Below.refl _ _)
          · have g6 : ((by1 s i 6 : Int) == 117) = false := by simp; omega
            have HE := Lib.hid (u_alone s i V h HC.out HV.out ⟨v1, v2⟩ (fun x => c6 x.2.2))
            clear c5 c6
            generalize by1 s i 5 = B5 at *
            generalize by1 s i 6 = B6 at *
            go_enter Tryd.func74, Tryd.ntmps74
            go_wp2_with fail
            refine (hexAt_any s _ (i + 1) V (by omega) HV.out _ hs (by omega)).mono ?_
            rintro e w1 ⟨rfl, rfl⟩
            go_wp2_with fail
            go_ret2
            exact one_no HE.out (Below.refl _ _)
        · have g5 : ((by1 s i 5 : Int) == 92) = false := by simp; omega
          have HE := Lib.hid (u_alone s i V h HC.out HV.out ⟨v1, v2⟩ (fun x => c5 x.2.1))
          clear c5
          generalize by1 s i 5 = B5 at *
          generalize by1 s i 6 = B6 at *
          go_enter Tryd.func74, Tryd.ntmps74
          go_wp2_with fail
          refine (hexAt_any s _ (i + 1) V (by omega) HV.out _ hs (by omega)).mono ?_
          rintro e w1 ⟨rfl, rfl⟩
          go_wp2_with fail
          go_ret2
          exact one_no HE.out (Below.refl _ _)
      · have k6 : decide ((i : Int) + 6 < (s.size : Int)) = false := by simp; omega
        have HE := Lib.hid (u_alone s i V h HC.out HV.out ⟨v1, v2⟩ (fun x => h6 x.1))
        go_enter Tryd.func74, Tryd.ntmps74
        go_wp2_with fail
        refine (hexAt_any s _ (i + 1) V (by omega) HV.out _ hs (by omega)).mono ?_
        rintro e w1 ⟨rfl, rfl⟩
        go_wp2_with fail
        go_ret2
        exact one_no HE.out (Below.refl _ _)
    · have k2 : decide (V ≤ 56319) = false := by simp; omega
      by_cases v3 : V ≤ 57343
      · have k3 : decide (V ≤ 57343) = true := by simp; omega
        have HE := Lib.hid (u_second s i V h HC.out HV.out ⟨by omega, v3⟩)
        go_enter Tryd.func74, Tryd.ntmps74
        go_wp2_with fail
        refine (hexAt_any s _ (i + 1) V (by omega) HV.out _ hs (by omega)).mono ?_
        rintro e w1 ⟨rfl, rfl⟩
        go_wp2_with fail
        go_ret2
        exact one_no HE.out (Below.refl _ _)
      · have k3 : decide (V ≤ 57343) = false := by simp; omega
        have HE := Lib.hid (u_plain s i V h HC.out HV.out (by omega) (by omega))
        go_enter Tryd.func74, Tryd.ntmps74
        go_wp2_with fail
        refine (hexAt_any s _ (i + 1) V (by omega) HV.out _ hs (by omega)).mono ?_
        rintro e w1 ⟨rfl, rfl⟩
        go_wp2_with fail
        refine (bytes_at _ _ (by omega) (by omega) (by omega)).mono ?_
        rintro e w2 ⟨rfl, b2⟩
        go_wp2_with fail
        go_ret2
        exact one_yes HE.out rfl rfl b2
  · have k1 : decide ((55296 : Int) ≤ V) = false := by simp; omega
    by_cases v0 : V < 0
    · have k0 : decide (V < 0) = true := by simp; omega
      have HE := Lib.hid (u_none s i h HC.out (by rw [HV.out]; exact v0))
      go_enter Tryd.func74, Tryd.ntmps74
      go_wp2_with fail
      refine (hexAt_any s _ (i + 1) V (by omega) HV.out _ hs (by omega)).mono ?_
      rintro e w1 ⟨rfl, rfl⟩
      go_wp2_with fail
      go_ret2
      exact one_no HE.out (Below.refl _ _)
    · have k0 : decide (V < 0) = false := by simp; omega
      have HE := Lib.hid (u_plain s i V h HC.out HV.out (by omega) (by omega))
      go_enter Tryd.func74, Tryd.ntmps74
      go_wp2_with fail
      refine (hexAt_any s _ (i + 1) V (by omega) HV.out _ hs (by omega)).mono ?_
      rintro e w1 ⟨rfl, rfl⟩
      go_wp2_with fail
      refine (bytes_at _ _ (by omega) (by omega) (by omega)).mono ?_
      rintro e w2 ⟨rfl, b2⟩
      go_wp2_with fail
      go_ret2
      exact one_yes HE.out rfl rfl b2

theorem one_any (s : ByteArray) (i : Nat) (w : World) (hs : s.size ≤ 1000000000) :
    Calls Tryd.prog 74 #[.string s, .int .i64 i] w (OnePost w (oneL (s.data.toList.drop i))) := by
  by_cases h : i < s.size
  · by_cases c34 : by1 s i 0 = 34
    · exact one_34 s i w hs h c34
    · by_cases c92 : by1 s i 0 = 92
      · exact one_92 s i w hs h c92
      · by_cases c47 : by1 s i 0 = 47
        · exact one_47 s i w hs h c47
        · by_cases c98 : by1 s i 0 = 98
          · exact one_98 s i w hs h c98
          · by_cases c102 : by1 s i 0 = 102
            · exact one_102 s i w hs h c102
            · by_cases c110 : by1 s i 0 = 110
              · exact one_110 s i w hs h c110
              · by_cases c114 : by1 s i 0 = 114
                · exact one_114 s i w hs h c114
                · by_cases c116 : by1 s i 0 = 116
                  · exact one_116 s i w hs h c116
                  · by_cases c117 : by1 s i 0 = 117
                    · exact one_117 s i w hs h c117
                    · exact one_other s i w hs h ⟨c34, c92, c47, c98, c102, c110, c114, c116, c117⟩
  · exact one_beyond s i w h

end Go.Proofs.YtakmkhkbeabgcaaDoor
