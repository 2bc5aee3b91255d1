/-
  What refectoryref01.blank and lines answer.
-/
import Derived.Test.YtakmkhkbeabgcaaDoorRef7
import Derived.Test.YtakmkhkbeabgcaaDoorBlock2
namespace Go.Proofs.YtakmkhkbeabgcaaDoor
open Go.RowKit

theorem isB_at (c : UInt8) : isB c = decide (c.toNat = 32 ∨ c.toNat = 9) := by
  unfold isB
  rw [Bool.eq_iff_iff]
  simp only [Bool.or_eq_true, beq_iff_eq, decide_eq_true_eq, ← UInt8.toNat_inj]
  have e1 : (32 : UInt8).toNat = 32 := rfl
  have e2 : (9 : UInt8).toNat = 9 := rfl
  rw [e1, e2]
theorem ind_go (s : ByteArray) (pos : Nat) (h : pos < s.size) (hb : s[pos].toNat = 32 ∨ s[pos].toNat = 9) : pos + indent (s.data.toList.drop pos) = pos + 1 + indent (s.data.toList.drop (pos + 1)) := by
  rw [drop_cons s pos h, indent_cons, isB_at, if_pos (by simpa using hb)]
  omega
theorem ind_stop (s : ByteArray) (pos : Nat) (h : pos < s.size) (hb : ¬ (s[pos].toNat = 32 ∨ s[pos].toNat = 9)) : pos + indent (s.data.toList.drop pos) = pos := by
  rw [drop_cons s pos h, indent_cons, isB_at, if_neg (by simpa using hb)]
  omega

set_option maxHeartbeats 2000000 in
theorem refBlank_any (s : ByteArray) (w : World) (hs : s.size ≤ 1000000000) :
    Calls Tryd.prog 89 #[.string s] w fun e w' => e = .returned (.int .i64 (indent s.data.toList)) ∧ w = w' := by
  go_enter Tryd.func89, Tryd.ntmps89
  go_wp2_with fail
  go_loop [3] (fun n => ∃ pos : Nat, pos ≤ s.size ∧ n = .int .i64 pos ∧ Hid (indent s.data.toList = pos + indent (s.data.toList.drop pos))) (fun n => s.size - (intOf n).toNat)
  case atStart => exact ⟨0, Nat.zero_le _, rfl, Lib.hid (by simp)⟩
  case round =>
    obtain ⟨pos, hp, rfl, HG⟩ := hrel
    by_cases hlt : pos < s.size
    · have f0 : decide ((pos : Int) < (s.size : Int)) = true := by simp; omega
      by_cases c1 : s[pos].toNat = 32
      · have f1 : ((s[pos].toNat : Int) == 32) = true := by rw [c1]; rfl
        have HS := Lib.hid (ind_go s pos hlt (.inl c1))
        clear c1
        go_wp2_with fail
        go_round
        case rel => exact ⟨pos + 1, by omega, by go_num, Lib.hid (by rw [HG.out, HS.out])⟩
        case measure => simp [intOf]; omega
      · have f1 : ((s[pos].toNat : Int) == 32) = false := by simp; omega
        by_cases c2 : s[pos].toNat = 9
        · have f2 : ((s[pos].toNat : Int) == 9) = true := by rw [c2]; rfl
          have HS := Lib.hid (ind_go s pos hlt (.inr c2))
          clear c1 c2
          go_wp2_with fail
          go_round
          case rel => exact ⟨pos + 1, by omega, by go_num, Lib.hid (by rw [HG.out, HS.out])⟩
          case measure => simp [intOf]; omega
        · have f2 : ((s[pos].toNat : Int) == 9) = false := by simp; omega
          have HS := Lib.hid (ind_stop s pos hlt (by omega))
          clear c1 c2
          go_wp2_with fail
          go_ret
          exact ⟨ret_int64 (by rw [HG.out, HS.out]), rfl⟩
    · have f0 : decide ((pos : Int) < (s.size : Int)) = false := by simp; omega
      go_wp2_with fail
      go_ret
      exact ⟨ret_int64 (by rw [HG.out, drop_end s pos hlt]; simp [indent]), rfl⟩

theorem blank_at (s : ByteArray) (N : Nat) (h : indent s.data.toList = N) (w : World) (hs : s.size ≤ 1000000000) :
    Calls Tryd.prog 89 #[.string s] w fun e w' => e = .returned (.int .i64 N) ∧ w = w' := by
  subst h
  exact refBlank_any s w hs

theorem ln_other (s : ByteArray) (b pos : Nat) (hbp : b ≤ pos) (hp : pos < s.size) (h10 : s[pos].toNat ≠ 10) (h13 : s[pos].toNat ≠ 13) :
    linesG (bl (s.extract b pos)) false (s.data.toList.drop pos) = linesG (bl (s.extract b (pos + 1))) false (s.data.toList.drop (pos + 1)) := by
  have e10 : (s[pos] == 10) = false := by
    rw [beq_eq_false_iff_ne]; intro e; rw [e] at h10; exact h10 rfl
  have e13 : (s[pos] == 13) = false := by
    rw [beq_eq_false_iff_ne]; intro e; rw [e] at h13; exact h13 rfl
  rw [extract_add s b pos (pos + 1) hbp (by omega)]
  conv => lhs; rw [drop_cons s pos hp]
  simp only [linesG, e10, e13]
  simp only [Bool.false_and, Bool.or_self, Bool.false_eq_true, if_false]
  congr 2
  rw [drop_cons s pos hp]
  have : pos + 1 - pos = 1 := by omega
  rw [this]
  rfl
theorem ln_10 (s : ByteArray) (b pos : Nat) (hp : pos < s.size) (h : s[pos].toNat = 10) :
    linesG (bl (s.extract b pos)) false (s.data.toList.drop pos) = bl (s.extract b pos) :: linesG (bl (s.extract (pos + 1) (pos + 1))) false (s.data.toList.drop (pos + 1)) := by
  have e : s[pos] = 10 := UInt8.toNat_inj.1 h
  rw [drop_cons s pos hp, e]
  simp [linesG, bl]
theorem ln_13_10 (s : ByteArray) (b pos : Nat) (hp : pos < s.size) (h : s[pos].toNat = 13) (hp2 : pos + 1 < s.size) (h2 : s[pos + 1].toNat = 10) :
    linesG (bl (s.extract b pos)) false (s.data.toList.drop pos) = bl (s.extract b pos) :: linesG (bl (s.extract (pos + 2) (pos + 2))) false (s.data.toList.drop (pos + 2)) := by
  have e : s[pos] = 13 := UInt8.toNat_inj.1 h
  have e2 : s[pos + 1] = 10 := UInt8.toNat_inj.1 h2
  rw [drop_cons s pos hp, e, drop_cons s (pos + 1) hp2, e2]
  simp [linesG, bl]
theorem linesG_beh (cur l : List UInt8) (h : ∀ c t, l = c :: t → c ≠ 10) (b : Bool) : linesG cur b l = linesG cur false l := by
  cases l with
  | nil => rfl
  | cons c t =>
    have hc := h c t rfl
    have : (c == 10) = false := by simpa using hc
    simp only [linesG, this]
    simp
theorem ln_13 (s : ByteArray) (b pos : Nat) (hp : pos < s.size) (h : s[pos].toNat = 13) (h2 : ∀ hp2 : pos + 1 < s.size, s[pos + 1].toNat ≠ 10) :
    linesG (bl (s.extract b pos)) false (s.data.toList.drop pos) = bl (s.extract b pos) :: linesG (bl (s.extract (pos + 1) (pos + 1))) false (s.data.toList.drop (pos + 1)) := by
  have e : s[pos] = 13 := UInt8.toNat_inj.1 h
  have k : linesG (bl (s.extract (pos + 1) (pos + 1))) true (s.data.toList.drop (pos + 1)) = linesG (bl (s.extract (pos + 1) (pos + 1))) false (s.data.toList.drop (pos + 1)) := by
    refine linesG_beh _ _ ?_ true
    intro c t hct
    by_cases hp2 : pos + 1 < s.size
    · rw [drop_cons s (pos + 1) hp2] at hct
      injection hct with hc _
      intro e10
      have := h2 hp2
      rw [hc, e10] at this
      exact this rfl
    · rw [drop_end s (pos + 1) hp2] at hct
      cases hct
  rw [← k, drop_cons s pos hp, e]
  simp [linesG, bl]

/-- The loop's relation in the page's lines. -/
def LineRel (s : ByteArray) (w : World) (a b i : Value) (wr : World) : Prop :=
  ∃ (pos beg : Nat) (xs : List ByteArray), b = .int .i64 beg ∧ i = .int .i64 pos ∧ wr.ownsRow w.heap.size 9 1 a xs.length (strVals xs) ∧ Below w.heap.size w wr ∧
    beg ≤ pos ∧ pos ≤ s.size ∧ xs.length ≤ pos ∧ Hid (linesB s.data.toList = xs.map bl ++ linesG (bl (s.extract beg pos)) false (s.data.toList.drop pos))

theorem row_more {w : World} {B : Nat} {v : Value} {xs : List ByteArray} {x : ByteArray} (h : w.ownsRow B 9 1 v (xs.length + 1) (strVals xs ++ [.string x])) : w.ownsRow B 9 1 v (xs ++ [x]).length (strVals (xs ++ [x])) := by
  have e1 : (xs ++ [x]).length = xs.length + 1 := by simp
  have e2 : strVals (xs ++ [x]) = strVals xs ++ [.string x] := by simp [strVals]
  rw [e1, e2]
  exact h

set_option maxHeartbeats 4000000 in
set_option maxRecDepth 100000 in
theorem refLines_any (s : ByteArray) (w : World) (hs : s.size ≤ 1000000000) :
    Calls Tryd.prog 88 #[.string s] w (SplitPost s w) := by
  obtain ⟨i0, hi, hz0, hz1, hz2⟩ := infoString
  have HI0 := Lib.hid hi
  have HZ0 := Lib.hid hz0
  have HZ1 := Lib.hid hz1
  have HZ2 := Lib.hid hz2
  clear hi hz0 hz1 hz2
  go_enter Tryd.func88, Tryd.ntmps88
  go_wp2_with fail
  go_loopw [3, 4, 5] (fun a b i wr => LineRel s w a b i wr) (fun _ _ i _ => s.size - (intOf i).toNat)
  case atStart =>
    exact ⟨0, 0, [], rfl, rfl, World.ownsRow_nil _ _ _ _, Below.refl _ w, Nat.le_refl _, Nat.zero_le _, Nat.le_refl _, Lib.hid (by simp [linesB, bl])⟩
  case round =>
    obtain ⟨pos, beg, xs, rfl, rfl, hown, hbw, hbp, hps, hxp, HL⟩ := hrel
    have hsz := hbw.size
    by_cases hp : pos < s.size
    · by_cases h10 : s[pos].toNat = 10
      · have f1 : ((s[pos].toNat : Int) != 10) = false := by rw [h10]; rfl
        have f2 : ((s[pos].toNat : Int) == 13) = false := by rw [h10]; rfl
        have HS := Lib.hid (ln_10 s beg pos hp h10)
        clear h10
        go_wp2_with (at_builtin; refine wpList_append_own _ rfl _ _ 85 rfl w.heap.size 9 i0 (.string ⟨#[]⟩) 1 16 Tryd.underlying85 HI0.out HZ0.out HZ1.out HZ2.out rfl (by decide) _ _ _ rfl (hown.alloc _) ⟨wr.heap.size, 0, none⟩ 1 1 [.string (s.extract beg pos)] rfl rfl ?c1 ?c2 ?c3 ?c4 ?c5 ?_)
        case c1 => exact cell_one_new _ _ _
        case c2 => intro u hu; simp at hu; subst hu; rfl
        case c3 => unfold maxLen; omega
        case c4 => omega
        case c5 => simp; omega
        intro v' w2 hown' hgrow _
        have hbw4 : Below w.heap.size w w2 := (hbw.alloc (by omega) _).grown hgrow (by simp; omega) (fun k hk => by have := (hown.lt k hk).1; omega)
        have HOWN := Lib.hid hown'
        clear hown' hgrow
        go_wp2_with fail
        go_roundw
        case rel => exact ⟨pos + 1, pos + 1, xs ++ [s.extract beg pos], by go_num, by go_num, row_more HOWN.out, hbw4, Nat.le_refl _, by omega, by simp; omega, Lib.hid (by rw [HL.out, HS.out]; simp)⟩
        case measure => simp [intOf]; omega
      · have f1 : ((s[pos].toNat : Int) != 10) = true := by simp; omega
        by_cases h13 : s[pos].toNat = 13
        · have f2 : ((s[pos].toNat : Int) != 13) = false := by rw [h13]; rfl
          have f3 : ((s[pos].toNat : Int) == 13) = true := by rw [h13]; rfl
          by_cases hp2 : pos + 1 < s.size
          · have f4 : decide ((pos : Int) + 1 < (s.size : Int)) = true := by simp; omega
            by_cases h2 : s[pos + 1].toNat = 10
            · have f5 : ((s[pos + 1].toNat : Int) == 10) = true := by rw [h2]; rfl
              have HS := Lib.hid (ln_13_10 s beg pos hp h13 hp2 h2)
              clear h10 h13 h2
              go_wp2_with (at_builtin; refine wpList_append_own _ rfl _ _ 85 rfl w.heap.size 9 i0 (.string ⟨#[]⟩) 1 16 Tryd.underlying85 HI0.out HZ0.out HZ1.out HZ2.out rfl (by decide) _ _ _ rfl (hown.alloc _) ⟨wr.heap.size, 0, none⟩ 1 1 [.string (s.extract beg pos)] rfl rfl ?c1 ?c2 ?c3 ?c4 ?c5 ?_)
              case c1 => exact cell_one_new _ _ _
              case c2 => intro u hu; simp at hu; subst hu; rfl
              case c3 => unfold maxLen; omega
              case c4 => omega
              case c5 => simp; omega
              intro v' w2 hown' hgrow _
              have hbw4 : Below w.heap.size w w2 := (hbw.alloc (by omega) _).grown hgrow (by simp; omega) (fun k hk => by have := (hown.lt k hk).1; omega)
              have HOWN := Lib.hid hown'
              clear hown' hgrow
              go_wp2_with fail
              go_roundw
              case rel => exact ⟨pos + 2, pos + 2, xs ++ [s.extract beg pos], by go_num, by go_num, row_more HOWN.out, hbw4, Nat.le_refl _, by omega, by simp; omega, Lib.hid (by rw [HL.out, HS.out]; simp)⟩
              case measure => simp [intOf]; omega
            · have f5 : ((s[pos + 1].toNat : Int) == 10) = false := by simp; omega
              have HS := Lib.hid (ln_13 s beg pos hp h13 (fun _ => h2))
              clear h10 h13 h2
              go_wp2_with (at_builtin; refine wpList_append_own _ rfl _ _ 85 rfl w.heap.size 9 i0 (.string ⟨#[]⟩) 1 16 Tryd.underlying85 HI0.out HZ0.out HZ1.out HZ2.out rfl (by decide) _ _ _ rfl (hown.alloc _) ⟨wr.heap.size, 0, none⟩ 1 1 [.string (s.extract beg pos)] rfl rfl ?c1 ?c2 ?c3 ?c4 ?c5 ?_)
              case c1 => exact cell_one_new _ _ _
              case c2 => intro u hu; simp at hu; subst hu; rfl
              case c3 => unfold maxLen; omega
              case c4 => omega
              case c5 => simp; omega
              intro v' w2 hown' hgrow _
              have hbw4 : Below w.heap.size w w2 := (hbw.alloc (by omega) _).grown hgrow (by simp; omega) (fun k hk => by have := (hown.lt k hk).1; omega)
              have HOWN := Lib.hid hown'
              clear hown' hgrow
              go_wp2_with fail
              go_roundw
              case rel => exact ⟨pos + 1, pos + 1, xs ++ [s.extract beg pos], by go_num, by go_num, row_more HOWN.out, hbw4, Nat.le_refl _, by omega, by simp; omega, Lib.hid (by rw [HL.out, HS.out]; simp)⟩
              case measure => simp [intOf]; omega
          · have f4 : decide ((pos : Int) + 1 < (s.size : Int)) = false := by simp; omega
            have HS := Lib.hid (ln_13 s beg pos hp h13 (fun h => absurd h hp2))
            clear h10 h13
            go_wp2_with (at_builtin; refine wpList_append_own _ rfl _ _ 85 rfl w.heap.size 9 i0 (.string ⟨#[]⟩) 1 16 Tryd.underlying85 HI0.out HZ0.out HZ1.out HZ2.out rfl (by decide) _ _ _ rfl (hown.alloc _) ⟨wr.heap.size, 0, none⟩ 1 1 [.string (s.extract beg pos)] rfl rfl ?c1 ?c2 ?c3 ?c4 ?c5 ?_)
            case c1 => exact cell_one_new _ _ _
            case c2 => intro u hu; simp at hu; subst hu; rfl
            case c3 => unfold maxLen; omega
            case c4 => omega
            case c5 => simp; omega
            intro v' w2 hown' hgrow _
            have hbw4 : Below w.heap.size w w2 := (hbw.alloc (by omega) _).grown hgrow (by simp; omega) (fun k hk => by have := (hown.lt k hk).1; omega)
            have HOWN := Lib.hid hown'
            clear hown' hgrow
            go_wp2_with fail
            go_roundw
            case rel => exact ⟨pos + 1, pos + 1, xs ++ [s.extract beg pos], by go_num, by go_num, row_more HOWN.out, hbw4, Nat.le_refl _, by omega, by simp; omega, Lib.hid (by rw [HL.out, HS.out]; simp)⟩
            case measure => simp [intOf]; omega
        · have f2 : ((s[pos].toNat : Int) != 13) = true := by simp; omega
          have HS := Lib.hid (ln_other s beg pos hbp hp h10 h13)
          clear h10 h13
          go_wp2_with fail
          go_roundw
          case rel => exact ⟨pos + 1, beg, xs, rfl, by go_num, hown, hbw, by omega, by omega, by omega, Lib.hid (by rw [HL.out, HS.out])⟩
          case measure => simp [intOf]; omega
    · have HS := Lib.hid (lines_end s beg pos false hps hp)
      go_wp2_with (at_builtin; refine wpList_append_own _ rfl _ _ 85 rfl w.heap.size 9 i0 (.string ⟨#[]⟩) 1 16 Tryd.underlying85 HI0.out HZ0.out HZ1.out HZ2.out rfl (by decide) _ _ _ rfl (hown.alloc _) ⟨wr.heap.size, 0, none⟩ 1 1 [.string (s.extract beg s.size)] rfl rfl ?c1 ?c2 ?c3 ?c4 ?c5 ?_)
      case c1 => exact cell_one_new _ _ _
      case c2 => intro u hu; simp at hu; subst hu; rfl
      case c3 => unfold maxLen; omega
      case c4 => omega
      case c5 => simp; omega
      intro v' w2 hown' hgrow _
      have hbw4 : Below w.heap.size w w2 := (hbw.alloc (by omega) _).grown hgrow (by simp; omega) (fun k hk => by have := (hown.lt k hk).1; omega)
      have HOWN := Lib.hid hown'
      clear hown' hgrow
      go_wp2_with fail
      go_ret
      refine ⟨_, xs ++ [s.extract beg s.size], rfl, row_more HOWN.out, ?_, by simp, hbw4, by simp; omega⟩
      rw [HL.out, HS.out]
      simp

end Go.Proofs.YtakmkhkbeabgcaaDoor
