/-
  What the reader's take and whole, and runes.Unquote, answer.
-/
import Derived.Test.YtibkncgfdhflgaaGreatDoorUnq
namespace Go.Proofs.YtibkncgfdhflgaaGreatDoor
open Go.RowKit

set_option maxHeartbeats 1000000 in
theorem take_any {B b : Nat} {s : St} {w : World} (c : Int) (h0 : -2147483648 ≤ c) (h1 : c ≤ 2147483647) (h : RdR B b s w) (hok : s.Ok) (hlen : s.out.length + 4 ≤ 140737488355328) (hBw : B ≤ w.heap.size) :
    Calls Tryz.prog 122 #[.pointer (some ⟨b, 0, none⟩), .int .i32 c] w (RdPost B b w (s.take c)) := by
  obtain ⟨x2, x3, x4, x5⟩ := rd_cells h
  obtain ⟨y2, y3, y4, y5⟩ := rd_frozen h
  by_cases hd : 0 < s.digits
  · have HP := Lib.hid (show s.take c = s.takeDigit c by unfold St.take; rw [if_pos hd])
    have hd' : decide (0 < s.digits) = true := by simpa using hd
    go_enter Tryz.func122, Tryz.ntmps122
    go_wp2_with fail
    refine (takeDigit_any c h0 h1 h hok hd hlen hBw).mono ?_
    rintro e w1 hp
    obtain ⟨q, rfl⟩ := rdPost_bool hp
    go_wp2_with fail
    go_ret
    exact rdPost_next hp (by rw [HP.out]) (Below.refl B _) (Lib.OthersKept.refl _ _ _)
  · have hd' : decide (0 < s.digits) = false := by simpa using hd
    by_cases he : s.esc = true
    · have HP := Lib.hid (show s.take c = s.takeLetter c by unfold St.take; rw [if_neg hd, if_pos he])
      clear hd
      go_enter Tryz.func122, Tryz.ntmps122
      go_wp2_with fail
      refine (takeLetter_any c h hlen hBw).mono ?_
      rintro e w1 hp
      obtain ⟨q, rfl⟩ := rdPost_bool hp
      go_wp2_with fail
      go_ret
      exact rdPost_next hp (by rw [HP.out]) (Below.refl B _) (Lib.OthersKept.refl _ _ _)
    · have he' : s.esc = false := by simpa using he
      clear he
      by_cases h92 : c = 92
      · subst h92
        have HP := Lib.hid (show s.take 92 = some { s with esc := true } by unfold St.take; rw [if_neg hd, if_neg (by simp [he']), if_pos rfl])
        clear hd
        go_enter Tryz.func122, Tryz.ntmps122
        go_wp2_with fail
        go_ret
        exact rdPost_yes HP.out (rd_below h (Below.refl B w) 2 _) (rd_setEsc h true) (rd_kept (Lib.OthersKept.refl _ _ w) 2 _)
      · have h92' : (c == 92) = false := by simpa using h92
        by_cases hx : c < 32 ∨ c = 34
        · have HP := Lib.hid (show s.take c = none by unfold St.take; rw [if_neg hd, if_neg (by simp [he']), if_neg h92, if_pos hx])
          clear hd h92
          rcases hx with hx | hx
          · have hx' : decide (c < 32) = true := by simpa using hx
            go_enter Tryz.func122, Tryz.ntmps122
            go_wp2_with fail
            go_ret
            exact rdPost_no HP.out (Below.refl _ _)
          · subst hx
            go_enter Tryz.func122, Tryz.ntmps122
            go_wp2_with fail
            go_ret
            exact rdPost_no HP.out (Below.refl _ _)
        · have HP := Lib.hid (show s.take c = s.put c by unfold St.take; rw [if_neg hd, if_neg (by simp [he']), if_neg h92, if_neg hx])
          have hx1 : decide (c < 32) = false := by simp; omega
          have hx2 : (c == 34) = false := by simp; omega
          clear hd h92 hx
          go_enter Tryz.func122, Tryz.ntmps122
          go_wp2_with fail
          refine (put_any c h0 h1 h hlen hBw).mono ?_
          rintro e w1 hp
          obtain ⟨q, rfl⟩ := rdPost_bool hp
          go_wp2_with fail
          go_ret
          exact rdPost_next hp (by rw [HP.out]) (Below.refl B _) (Lib.OthersKept.refl _ _ _)

theorem whole_eq (s : St) : s.whole = (!s.esc && (s.digits == 0 && s.first == 0)) := by
  unfold St.whole
  rw [Bool.and_assoc]
  rfl

set_option maxHeartbeats 1000000 in
theorem whole_any {B b : Nat} {s : St} {w : World} (h : RdR B b s w) :
    Calls Tryz.prog 123 #[.pointer (some ⟨b, 0, none⟩)] w fun e w' => e = .returned (.bool s.whole) ∧ w = w' := by
  obtain ⟨x2, x3, x4, x5⟩ := rd_cells h
  cases he : s.esc <;> cases hd : (s.digits == 0) <;> cases hf : (s.first == 0)
  all_goals
    have HP := Lib.hid (whole_eq s)
    rw [he, hd, hf] at HP
    rw [he] at x2
    clear he
    go_enter Tryz.func123, Tryz.ntmps123
    go_wp2_with fail
    go_ret
    exact ⟨ret_bool (by rw [HP.out]; rfl), rfl⟩

end Go.Proofs.YtibkncgfdhflgaaGreatDoor
