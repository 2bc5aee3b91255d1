/-
  What runes.Unquote's parts answer: digitOf, pointOf, isFirstHalf, isSecondHalf, and the reader's methods.
-/
import Derived.Test.YtkahnlgedacppaaGreatDoorMQuote2
namespace Go.Proofs.YtkahnlgedacppaaGreatDoor
open Go.RowKit

def hexV (c : Int) : Int := if 48 ≤ c ∧ c ≤ 57 then c - 48 else if 97 ≤ c ∧ c ≤ 102 then c - 87 else if 65 ≤ c ∧ c ≤ 70 then c - 55 else -1
def ptOf (c : Int) : Int := if c = 34 ∨ c = 92 ∨ c = 47 then c else if c = 98 then 8 else if c = 116 then 9 else if c = 110 then 10 else if c = 102 then 12 else if c = 114 then 13 else 0
def half1 (c : Int) : Bool := decide (55296 ≤ c ∧ c ≤ 56319)
def half2 (c : Int) : Bool := decide (56320 ≤ c ∧ c ≤ 57343)

theorem hexV_range (c : Int) : -1 ≤ hexV c ∧ hexV c ≤ 15 := by
  unfold hexV
  repeat' split
  all_goals omega
theorem ptOf_range (c : Int) : 0 ≤ ptOf c ∧ ptOf c ≤ 127 := by
  unfold ptOf
  repeat' split
  all_goals omega

set_option maxHeartbeats 1000000 in
theorem digitOf_any (c : Int) (w : World) (h0 : -2147483648 ≤ c) (h1 : c ≤ 2147483647) :
    Calls Tryz.prog 334 #[.int .i32 c] w fun e w' => e = .returned (.int .i32 (hexV c)) ∧ w = w' := by
  go_enter Tryz.func334, Tryz.ntmps334
  go_wp2
  all_goals
    go_ret
    refine ⟨ret_i32 ?_, rfl⟩
    unfold hexV
    repeat' split
    all_goals first | omega | (simp at *; omega)

set_option maxHeartbeats 1000000 in
theorem pointOf_any (c : Int) (w : World) :
    Calls Tryz.prog 336 #[.int .i32 c] w fun e w' => e = .returned (.int .i32 (ptOf c)) ∧ w = w' := by
  go_enter Tryz.func336, Tryz.ntmps336
  go_wp2
  all_goals
    go_ret
    refine ⟨ret_i32 ?_, rfl⟩
    simp only [beq_iff_eq, beq_eq_false_iff_ne, ne_eq] at *
    simp [ptOf, *]

set_option maxHeartbeats 1000000 in
theorem isFirstHalf_any (c : Int) (w : World) :
    Calls Tryz.prog 356 #[.int .i32 c] w fun e w' => e = .returned (.bool (half1 c)) ∧ w = w' := by
  go_enter Tryz.func356, Tryz.ntmps356
  go_wp2
  all_goals
    go_ret
    refine ⟨ret_bool ?_, rfl⟩
    rw [Bool.eq_iff_iff]
    simp [half1]
    try omega

set_option maxHeartbeats 1000000 in
theorem isSecondHalf_any (c : Int) (w : World) :
    Calls Tryz.prog 354 #[.int .i32 c] w fun e w' => e = .returned (.bool (half2 c)) ∧ w = w' := by
  go_enter Tryz.func354, Tryz.ntmps354
  go_wp2
  all_goals
    go_ret
    refine ⟨ret_bool ?_, rfl⟩
    rw [Bool.eq_iff_iff]
    simp [half2]
    try omega

/-- The reader, as data. -/
structure St where
  out : List UInt8
  esc : Bool
  digits : Int
  code : Int
  first : Int

def St.put (s : St) (c : Int) : Option St := if s.first = 0 then some { s with out := s.out ++ Lib.encodeRune c } else none
def St.join (s : St) : Option St := if s.first = 0 then none else some { s with first := 0, out := s.out ++ Lib.encodeRune (65536 + (s.first - 55296) * 1024 + (s.code - 56320)) }
def St.takeCode (s : St) : Option St := if half2 s.code then s.join else if half1 s.code then (if s.first = 0 then some { s with first := s.code } else none) else s.put s.code
def St.takeDigit (s : St) (c : Int) : Option St := if hexV c < 0 then none else if 1 < s.digits then some { s with code := s.code * 16 + hexV c, digits := s.digits - 1 } else St.takeCode { s with code := s.code * 16 + hexV c, digits := s.digits - 1 }
def St.takeLetter (s : St) (c : Int) : Option St := if c = 117 then some { s with esc := false, digits := 4, code := 0 } else if ptOf c = 0 then none else St.put { s with esc := false } (ptOf c)
def St.take (s : St) (c : Int) : Option St := if 0 < s.digits then s.takeDigit c else if s.esc then s.takeLetter c else if c = 92 then some { s with esc := true } else if c < 32 ∨ c = 34 then none else s.put c
def St.whole (s : St) : Bool := !s.esc && decide (s.digits = 0) && decide (s.first = 0)

/-- What the reader's numbers keep to. -/
structure St.Ok (s : St) : Prop where
  d0 : 0 ≤ s.digits
  d4 : s.digits ≤ 4
  c0 : 0 ≤ s.code
  c1 : s.code < 65536
  c2 : (s.digits = 4 → s.code = 0) ∧ (s.digits = 3 → s.code < 16) ∧ (s.digits = 2 → s.code < 256) ∧ (s.digits = 1 → s.code < 4096)
  f : s.first = 0 ∨ (55296 ≤ s.first ∧ s.first ≤ 56319)

def St.rest (s : St) : List Value := [.bool s.esc, .int .i64 s.digits, .int .i32 s.code, .int .i32 s.first]
/-- The reader in block b. -/
def RdR (B b : Nat) (s : St) (w : World) : Prop := Bld 298 B b s.rest (Lib.byteCells s.out) w

/-- What a method of the reader answers. -/
def RdPost (B b : Nat) (w : World) (o : Option St) (e : Ending) (w' : World) : Prop :=
  Below B w w' ∧ match o with
    | some s => e = .returned (.bool true) ∧ RdR B b s w' ∧ Lib.OthersKept 5 (some b) w w'
    | none => e = .returned (.bool false)

theorem rd_cells {B b : Nat} {s : St} {w : World} (h : RdR B b s w) : w.cell? ⟨b, 2, none⟩ = some (.bool s.esc) ∧ w.cell? ⟨b, 3, none⟩ = some (.int .i64 s.digits) ∧ w.cell? ⟨b, 4, none⟩ = some (.int .i32 s.code) ∧ w.cell? ⟨b, 5, none⟩ = some (.int .i32 s.first) :=
  ⟨Bld.cellAt h 0, Bld.cellAt h 1, Bld.cellAt h 2, Bld.cellAt h 3⟩
theorem rd_frozen {B b : Nat} {s : St} {w : World} (h : RdR B b s w) : w.frozen? ⟨b, 2, none⟩ = false ∧ w.frozen? ⟨b, 3, none⟩ = false ∧ w.frozen? ⟨b, 4, none⟩ = false ∧ w.frozen? ⟨b, 5, none⟩ = false :=
  ⟨Bld.frozenAt h _, Bld.frozenAt h _, Bld.frozenAt h _, Bld.frozenAt h _⟩

theorem rdPost_no {B b : Nat} {w w' : World} {o : Option St} (h : o = none) (hb : Below B w w') : RdPost B b w o (.returned (.bool false)) w' := by subst h; exact ⟨hb, rfl⟩
theorem rdPost_yes {B b : Nat} {w w' : World} {o : Option St} {s : St} (h : o = some s) (hb : Below B w w') (hr : RdR B b s w') (hk : Lib.OthersKept 5 (some b) w w') : RdPost B b w o (.returned (.bool true)) w' := by subst h; exact ⟨hb, rfl, hr, hk⟩

set_option maxHeartbeats 1000000 in
theorem put_any {B b : Nat} {s : St} {w : World} (c : Int) (hc0 : -2147483648 ≤ c) (hc1 : c ≤ 2147483647) (h : RdR B b s w) (hlen : s.out.length + 4 ≤ 140737488355328) (hBw : B ≤ w.heap.size) :
    Calls Tryz.prog 316 #[.pointer (some ⟨b, 0, none⟩), .int .i32 c] w (RdPost B b w (s.put c)) := by
  obtain ⟨x2, x3, x4, x5⟩ := rd_cells h
  by_cases hf : s.first = 0
  · have hf' : (s.first != 0) = false := by simp [hf]
    have HP := Lib.hid (show s.put c = some { s with out := s.out ++ Lib.encodeRune c } by unfold St.put; rw [if_pos hf])
    clear hf
    go_enter Tryz.func316, Tryz.ntmps316
    go_wp2_with fail
    refine (writeRune_any c hc0 hc1 Fit.reader h (by rw [Lib.byteCells_length]; exact hlen) hBw).mono ?_
    rintro e w1 ⟨rfl, h1, b1, k1⟩
    go_wp2_with fail
    go_ret
    refine rdPost_yes HP.out b1 ?_ k1
    unfold RdR
    rw [Lib.byteCells_append, Lib.byteCells_encodeRune]
    exact h1
  · have hf' : (s.first != 0) = true := by simpa using hf
    have HP := Lib.hid (show s.put c = none by unfold St.put; rw [if_neg hf])
    clear hf
    go_enter Tryz.func316, Tryz.ntmps316
    go_wp2_with fail
    go_ret
    exact rdPost_no HP.out (Below.refl _ _)

theorem rd_setEsc {B b : Nat} {s : St} {w : World} (h : RdR B b s w) (q : Bool) : RdR B b { s with esc := q } (w.setCell ⟨b, 2, none⟩ (.bool q)) := Bld.put h 0 (.bool q)
theorem rd_setDigits {B b : Nat} {s : St} {w : World} (h : RdR B b s w) (q : Int) : RdR B b { s with digits := q } (w.setCell ⟨b, 3, none⟩ (.int .i64 q)) := Bld.put h 1 (.int .i64 q)
theorem rd_setCode {B b : Nat} {s : St} {w : World} (h : RdR B b s w) (q : Int) : RdR B b { s with code := q } (w.setCell ⟨b, 4, none⟩ (.int .i32 q)) := Bld.put h 2 (.int .i32 q)
theorem rd_setFirst {B b : Nat} {s : St} {w : World} (h : RdR B b s w) (q : Int) : RdR B b { s with first := q } (w.setCell ⟨b, 5, none⟩ (.int .i32 q)) := Bld.put h 3 (.int .i32 q)
theorem rd_le {B b : Nat} {s : St} {w : World} (h : RdR B b s w) : B ≤ b := h.elim (fun x => x.1) (fun x => x.1)
theorem rd_below {B b : Nat} {s : St} {a w : World} (h : RdR B b s w) (hb : Below B a w) (j : Nat) (q : Value) : Below B a (w.setCell ⟨b, j, none⟩ q) := hb.setCell (p := ⟨b, j, none⟩) (rd_le h) q
theorem rd_kept {b : Nat} {a w : World} (hk : Lib.OthersKept 5 (some b) a w) (j : Nat) (q : Value) : Lib.OthersKept 5 (some b) a (w.setCell ⟨b, j, none⟩ q) := hk.setCell ⟨b, j, none⟩ rfl q

/-- One method hands on what another one answers. -/
theorem rdPost_next {B b : Nat} {w w1 w2 : World} {o o' : Option St} {e : Ending} (h : RdPost B b w1 o e w2) (ho : o = o') (hb : Below B w w1) (hk : Lib.OthersKept 5 (some b) w w1) : RdPost B b w o' e w2 := by
  subst ho
  refine ⟨hb.trans h.1, ?_⟩
  cases o with
  | none => exact h.2
  | some s => exact ⟨h.2.1, h.2.2.1, hk.trans h.2.2.2⟩

theorem rdPost_bool {B b : Nat} {w w2 : World} {o : Option St} {e : Ending} (h : RdPost B b w o e w2) : ∃ q : Bool, e = .returned (.bool q) := by
  cases o with
  | none => exact ⟨false, h.2⟩
  | some s => exact ⟨true, h.2.1⟩

set_option maxHeartbeats 1000000 in
theorem join_any {B b : Nat} {s : St} {w : World} (h : RdR B b s w) (hok : s.Ok) (hc : half2 s.code = true) (hlen : s.out.length + 4 ≤ 140737488355328) (hBw : B ≤ w.heap.size) :
    Calls Tryz.prog 355 #[.pointer (some ⟨b, 0, none⟩)] w (RdPost B b w s.join) := by
  obtain ⟨x2, x3, x4, x5⟩ := rd_cells h
  obtain ⟨y2, y3, y4, y5⟩ := rd_frozen h
  have hcr : 56320 ≤ s.code ∧ s.code ≤ 57343 := by simpa [half2] using hc
  clear hc
  by_cases hf : s.first = 0
  · have hf' : (s.first == 0) = true := by simp [hf]
    have HP := Lib.hid (show s.join = none by unfold St.join; rw [if_pos hf])
    clear hf
    go_enter Tryz.func355, Tryz.ntmps355
    go_wp2_with fail
    go_ret
    exact rdPost_no HP.out (Below.refl _ _)
  · have hf' : (s.first == 0) = false := by simpa using hf
    have hfr : 55296 ≤ s.first ∧ s.first ≤ 56319 := by rcases hok.f with h' | h'; exact absurd h' hf; exact h'
    have HP := Lib.hid (show s.join = some { s with first := 0, out := s.out ++ Lib.encodeRune (65536 + (s.first - 55296) * 1024 + (s.code - 56320)) } by unfold St.join; rw [if_neg hf])
    clear hf
    go_enter Tryz.func355, Tryz.ntmps355
    go_wp2_with fail
    go_region
    go_wp2_with fail
    have h1 : RdR B b { s with first := 0 } (w.setCell ⟨b, 5, none⟩ (.int .i32 0)).drew := rd_setFirst h 0
    refine (put_any (65536 + (s.first - 55296) * 1024 + (s.code - 56320)) (by omega) (by omega) h1 hlen (by simpa [World.setCell] using hBw)).mono ?_
    rintro e w1 hp
    obtain ⟨q, rfl⟩ := rdPost_bool hp
    go_wp2_with fail
    go_ret
    exact rdPost_next hp (by rw [HP.out, St.put, if_pos rfl]) (rd_below h (Below.refl B w) 5 _).drew (rd_kept (Lib.OthersKept.refl _ _ w) 5 _)

set_option maxHeartbeats 1000000 in
theorem takeCode_any {B b : Nat} {s : St} {w : World} (h : RdR B b s w) (hok : s.Ok) (hlen : s.out.length + 4 ≤ 140737488355328) (hBw : B ≤ w.heap.size) :
    Calls Tryz.prog 335 #[.pointer (some ⟨b, 0, none⟩)] w (RdPost B b w s.takeCode) := by
  obtain ⟨x2, x3, x4, x5⟩ := rd_cells h
  obtain ⟨y2, y3, y4, y5⟩ := rd_frozen h
  have k0 := hok.c0
  have k1 := hok.c1
  by_cases hc2 : half2 s.code = true
  · have HP := Lib.hid (show s.takeCode = s.join by unfold St.takeCode; rw [if_pos hc2])
    have HC := Lib.hid hc2
    go_enter Tryz.func335, Tryz.ntmps335
    go_wp2_with ((go_at_call 354); (refine (isSecondHalf_any _ _).mono ?_); rintro e w' ⟨rfl, rfl⟩)
    refine (join_any h hok HC.out hlen hBw).mono ?_
    rintro e w1 hp
    obtain ⟨q, rfl⟩ := rdPost_bool hp
    go_wp2_with fail
    go_ret
    exact rdPost_next hp (by rw [HP.out]) (Below.refl B _) (Lib.OthersKept.refl _ _ _)
  · have hc2' : half2 s.code = false := by simpa using hc2
    clear hc2
    by_cases hc1 : half1 s.code = true
    · by_cases hf : s.first = 0
      · have hf' : (s.first != 0) = false := by simp [hf]
        have HP := Lib.hid (show s.takeCode = some { s with first := s.code } by unfold St.takeCode; rw [hc2', if_neg (by simp), if_pos hc1, if_pos hf])
        clear hf
        go_enter Tryz.func335, Tryz.ntmps335
        go_wp2_with (first | ((go_at_call 354); (refine (isSecondHalf_any _ _).mono ?_); rintro e w' ⟨rfl, rfl⟩) | ((go_at_call 356); (refine (isFirstHalf_any _ _).mono ?_); rintro e w' ⟨rfl, rfl⟩))
        go_ret
        exact rdPost_yes HP.out (rd_below h (Below.refl B w) 5 _) (rd_setFirst h _) (rd_kept (Lib.OthersKept.refl _ _ w) 5 _)
      · have hf' : (s.first != 0) = true := by simpa using hf
        have HP := Lib.hid (show s.takeCode = none by unfold St.takeCode; rw [hc2', if_neg (by simp), if_pos hc1, if_neg hf])
        clear hf
        go_enter Tryz.func335, Tryz.ntmps335
        go_wp2_with (first | ((go_at_call 354); (refine (isSecondHalf_any _ _).mono ?_); rintro e w' ⟨rfl, rfl⟩) | ((go_at_call 356); (refine (isFirstHalf_any _ _).mono ?_); rintro e w' ⟨rfl, rfl⟩))
        go_ret
        exact rdPost_no HP.out (Below.refl _ _)
    · have hc1' : half1 s.code = false := by simpa using hc1
      clear hc1
      have HP := Lib.hid (show s.takeCode = s.put s.code by unfold St.takeCode; rw [hc2', hc1', if_neg (by simp), if_neg (by simp)])
      go_enter Tryz.func335, Tryz.ntmps335
      go_wp2_with (first | ((go_at_call 354); (refine (isSecondHalf_any _ _).mono ?_); rintro e w' ⟨rfl, rfl⟩) | ((go_at_call 356); (refine (isFirstHalf_any _ _).mono ?_); rintro e w' ⟨rfl, rfl⟩))
      refine (put_any s.code (by omega) (by omega) h hlen hBw).mono ?_
      rintro e w1 hp
      obtain ⟨q, rfl⟩ := rdPost_bool hp
      go_wp2_with fail
      go_ret
      exact rdPost_next hp (by rw [HP.out]) (Below.refl B _) (Lib.OthersKept.refl _ _ _)

theorem St.Ok.digit {s : St} (hok : s.Ok) (hd : 0 < s.digits) (v : Int) (h0 : 0 ≤ v) (h1 : v ≤ 15) : St.Ok { s with code := s.code * 16 + v, digits := s.digits - 1 } := by
  obtain ⟨d0, d4, c0, c1, ⟨c24, c23, c22, c21⟩, f⟩ := hok
  refine ⟨?_, ?_, ?_, ?_, ⟨?_, ?_, ?_, ?_⟩, f⟩ <;> simp only <;> omega

set_option maxHeartbeats 1000000 in
theorem takeLetter_any {B b : Nat} {s : St} {w : World} (c : Int) (h : RdR B b s w) (hlen : s.out.length + 4 ≤ 140737488355328) (hBw : B ≤ w.heap.size) :
    Calls Tryz.prog 315 #[.pointer (some ⟨b, 0, none⟩), .int .i32 c] w (RdPost B b w (s.takeLetter c)) := by
  obtain ⟨x2, x3, x4, x5⟩ := rd_cells h
  obtain ⟨y2, y3, y4, y5⟩ := rd_frozen h
  have hpr := ptOf_range c
  by_cases hu : c = 117
  · subst hu
    go_enter Tryz.func315, Tryz.ntmps315
    go_wp2_with fail
    go_ret
    exact rdPost_yes (by unfold St.takeLetter; rw [if_pos rfl]) (((Below.refl B w).setCell (p := ⟨b, 2, none⟩) (rd_le h) _).setCell (p := ⟨b, 3, none⟩) (rd_le h) _ |>.setCell (p := ⟨b, 4, none⟩) (rd_le h) _) (rd_setCode (rd_setDigits (rd_setEsc h false) 4) 0) (rd_kept (rd_kept (rd_kept (Lib.OthersKept.refl _ _ w) 2 _) 3 _) 4 _)
  · have hu' : (c == 117) = false := by simpa using hu
    by_cases hz : ptOf c = 0
    · have hz' : (ptOf c != 0) = false := by simp [hz]
      have HP := Lib.hid (show s.takeLetter c = none by unfold St.takeLetter; rw [if_neg hu, if_pos hz])
      clear hu hz
      go_enter Tryz.func315, Tryz.ntmps315
      go_wp2_with ((go_at_call 336); (refine (pointOf_any _ _).mono ?_); rintro e w' ⟨rfl, rfl⟩)
      go_ret
      exact rdPost_no HP.out (rd_below h (Below.refl B w) 2 _)
    · have hz' : (ptOf c != 0) = true := by simpa using hz
      have HP := Lib.hid (show s.takeLetter c = St.put { s with esc := false } (ptOf c) by unfold St.takeLetter; rw [if_neg hu, if_neg hz])
      clear hu hz
      go_enter Tryz.func315, Tryz.ntmps315
      go_wp2_with ((go_at_call 336); (refine (pointOf_any _ _).mono ?_); rintro e w' ⟨rfl, rfl⟩)
      refine (put_any (ptOf c) (by omega) (by omega) (rd_setEsc h false) hlen (by simpa [World.setCell] using hBw)).mono ?_
      rintro e w1 hp
      obtain ⟨q, rfl⟩ := rdPost_bool hp
      go_wp2_with fail
      go_ret
      exact rdPost_next hp (by rw [HP.out]) (rd_below h (Below.refl B w) 2 _) (rd_kept (Lib.OthersKept.refl _ _ w) 2 _)

set_option maxHeartbeats 1000000 in
theorem takeDigit_any {B b : Nat} {s : St} {w : World} (c : Int) (h0 : -2147483648 ≤ c) (h1 : c ≤ 2147483647) (h : RdR B b s w) (hok : s.Ok) (hd : 0 < s.digits) (hlen : s.out.length + 4 ≤ 140737488355328) (hBw : B ≤ w.heap.size) :
    Calls Tryz.prog 314 #[.pointer (some ⟨b, 0, none⟩), .int .i32 c] w (RdPost B b w (s.takeDigit c)) := by
  obtain ⟨x2, x3, x4, x5⟩ := rd_cells h
  obtain ⟨y2, y3, y4, y5⟩ := rd_frozen h
  have hr := hexV_range c
  have k0 := hok.c0
  have k1 := hok.c1
  have k4 := hok.d4
  by_cases hn : hexV c < 0
  · have HP := Lib.hid (show s.takeDigit c = none by unfold St.takeDigit; rw [if_pos hn])
    have hn' : decide (hexV c < 0) = true := by simpa using hn
    go_enter Tryz.func314, Tryz.ntmps314
    go_wp2_with ((go_at_call 334); (refine (digitOf_any _ _ h0 h1).mono ?_); rintro e w' ⟨rfl, rfl⟩)
    go_ret
    exact rdPost_no HP.out (Below.refl _ _)
  · have hok2 := hok.digit hd (hexV c) (by omega) hr.2
    have hn' : decide (hexV c < 0) = false := by simpa using hn
    have hz1 : 0 ≤ hexV c := by omega
    have h2 : RdR B b { s with code := s.code * 16 + hexV c, digits := s.digits - 1 } ((w.setCell ⟨b, 4, none⟩ (.int .i32 (s.code * 16 + hexV c))).setCell ⟨b, 3, none⟩ (.int .i64 (s.digits - 1))) := rd_setDigits (rd_setCode h _) _
    by_cases hm : 1 < s.digits
    · have HP := Lib.hid (show s.takeDigit c = some { s with code := s.code * 16 + hexV c, digits := s.digits - 1 } by unfold St.takeDigit; rw [if_neg hn, if_pos hm])
      have hm' : decide (0 < s.digits - 1) = true := by simp; omega
      clear hn
      go_enter Tryz.func314, Tryz.ntmps314
      go_wp2_with ((go_at_call 334); (refine (digitOf_any _ _ h0 h1).mono ?_); rintro e w' ⟨rfl, rfl⟩)
      go_ret
      exact rdPost_yes HP.out (rd_below (rd_setCode h (s.code * 16 + hexV c)) (rd_below h (Below.refl B w) 4 _) 3 _) h2 (rd_kept (rd_kept (Lib.OthersKept.refl _ _ w) 4 _) 3 _)
    · have HP := Lib.hid (show s.takeDigit c = St.takeCode { s with code := s.code * 16 + hexV c, digits := s.digits - 1 } by unfold St.takeDigit; rw [if_neg hn, if_neg hm])
      have hm' : decide (1 < s.digits) = false := by simpa using hm
      clear hn
      go_enter Tryz.func314, Tryz.ntmps314
      go_wp2_with ((go_at_call 334); (refine (digitOf_any _ _ h0 h1).mono ?_); rintro e w' ⟨rfl, rfl⟩)
      refine (takeCode_any h2 hok2 hlen (by simpa [World.setCell] using hBw)).mono ?_
      rintro e w1 hp
      obtain ⟨q, rfl⟩ := rdPost_bool hp
      go_wp2_with fail
      go_ret
      exact rdPost_next hp (by rw [HP.out]) (rd_below (rd_setCode h (s.code * 16 + hexV c)) (rd_below h (Below.refl B w) 4 _) 3 _) (rd_kept (rd_kept (Lib.OthersKept.refl _ _ w) 4 _) 3 _)

end Go.Proofs.YtkahnlgedacppaaGreatDoor
/-
  What the reader's take and whole, and runes.Unquote, answer.
-/
namespace Go.Proofs.YtkahnlgedacppaaGreatDoor
open Go.RowKit

set_option maxHeartbeats 1000000 in
theorem take_any {B b : Nat} {s : St} {w : World} (c : Int) (h0 : -2147483648 ≤ c) (h1 : c ≤ 2147483647) (h : RdR B b s w) (hok : s.Ok) (hlen : s.out.length + 4 ≤ 140737488355328) (hBw : B ≤ w.heap.size) :
    Calls Tryz.prog 280 #[.pointer (some ⟨b, 0, none⟩), .int .i32 c] w (RdPost B b w (s.take c)) := by
  obtain ⟨x2, x3, x4, x5⟩ := rd_cells h
  obtain ⟨y2, y3, y4, y5⟩ := rd_frozen h
  by_cases hd : 0 < s.digits
  · have HP := Lib.hid (show s.take c = s.takeDigit c by unfold St.take; rw [if_pos hd])
    have hd' : decide (0 < s.digits) = true := by simpa using hd
    go_enter Tryz.func280, Tryz.ntmps280
    go_wp2_with fail
    refine (takeDigit_any c h0 h1 h hok hd hlen hBw).mono ?_
    rintro e w1 hp
    obtain ⟨q, rfl⟩ := rdPost_bool hp
    go_wp2_with fail
    go_ret
    exact rdPost_next hp (by rw [HP.out]) (Below.refl B _) (Lib.OthersKept.refl _ _ _)
  · have hd' : decide (0 < s.digits) = false := by simpa using hd
    by_cases he : s.esc = true
    · have HP := Lib.hid (show s.take c = s.takeLetter c by unfold St.take; rw [if_neg hd, if_pos he])
      clear hd
      go_enter Tryz.func280, Tryz.ntmps280
      go_wp2_with fail
      refine (takeLetter_any c h hlen hBw).mono ?_
      rintro e w1 hp
      obtain ⟨q, rfl⟩ := rdPost_bool hp
      go_wp2_with fail
      go_ret
      exact rdPost_next hp (by rw [HP.out]) (Below.refl B _) (Lib.OthersKept.refl _ _ _)
    · have he' : s.esc = false := by simpa using he
      clear he
      by_cases h92 : c = 92
      · subst h92
        have HP := Lib.hid (show s.take 92 = some { s with esc := true } by unfold St.take; rw [if_neg hd, if_neg (by simp [he']), if_pos rfl])
        clear hd
        go_enter Tryz.func280, Tryz.ntmps280
        go_wp2_with fail
        go_ret
        exact rdPost_yes HP.out (rd_below h (Below.refl B w) 2 _) (rd_setEsc h true) (rd_kept (Lib.OthersKept.refl _ _ w) 2 _)
      · have h92' : (c == 92) = false := by simpa using h92
        by_cases hx : c < 32 ∨ c = 34
        · have HP := Lib.hid (show s.take c = none by unfold St.take; rw [if_neg hd, if_neg (by simp [he']), if_neg h92, if_pos hx])
          clear hd h92
          rcases hx with hx | hx
          · have hx' : decide (c < 32) = true := by simpa using hx
            go_enter Tryz.func280, Tryz.ntmps280
            go_wp2_with fail
            go_ret
            exact rdPost_no HP.out (Below.refl _ _)
          · subst hx
            go_enter Tryz.func280, Tryz.ntmps280
            go_wp2_with fail
            go_ret
            exact rdPost_no HP.out (Below.refl _ _)
        · have HP := Lib.hid (show s.take c = s.put c by unfold St.take; rw [if_neg hd, if_neg (by simp [he']), if_neg h92, if_neg hx])
          have hx1 : decide (c < 32) = false := by simp; omega
          have hx2 : (c == 34) = false := by simp; omega
          clear hd h92 hx
          go_enter Tryz.func280, Tryz.ntmps280
          go_wp2_with fail
          refine (put_any c h0 h1 h hlen hBw).mono ?_
          rintro e w1 hp
          obtain ⟨q, rfl⟩ := rdPost_bool hp
          go_wp2_with fail
          go_ret
          exact rdPost_next hp (by rw [HP.out]) (Below.refl B _) (Lib.OthersKept.refl _ _ _)

theorem whole_eq (s : St) : s.whole = (!s.esc && (s.digits == 0 && s.first == 0)) := by
  unfold St.whole
  rw [Bool.and_assoc]
  rfl

set_option maxHeartbeats 1000000 in
theorem whole_any {B b : Nat} {s : St} {w : World} (h : RdR B b s w) :
    Calls Tryz.prog 281 #[.pointer (some ⟨b, 0, none⟩)] w fun e w' => e = .returned (.bool s.whole) ∧ w = w' := by
  obtain ⟨x2, x3, x4, x5⟩ := rd_cells h
  cases he : s.esc <;> cases hd : (s.digits == 0) <;> cases hf : (s.first == 0)
  all_goals
    have HP := Lib.hid (whole_eq s)
    rw [he, hd, hf] at HP
    rw [he] at x2
    clear he
    go_enter Tryz.func281, Tryz.ntmps281
    go_wp2_with fail
    go_ret
    exact ⟨ret_bool (by rw [HP.out]; rfl), rfl⟩

end Go.Proofs.YtkahnlgedacppaaGreatDoor
