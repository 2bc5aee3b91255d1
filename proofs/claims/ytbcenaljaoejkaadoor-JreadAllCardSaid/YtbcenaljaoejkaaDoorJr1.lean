/-
  jread's reader: its state; blanks, signs, words.
-/
import Derived.Test.YtbcenaljaoejkaaDoorJp
import Derived.BigQuiet
import Derived.Deep.LoopGhost
import Derived.Deep.Cut
import Derived.Deep.RegionWith
import Derived.Deep.QuietTactic
namespace Go.Proofs.YtbcenaljaoejkaaDoor
open Go.RowKit

/-- The reader lies in block R: the text, where it stands, was something too deep, was a name there twice. -/
structure Rdr (w : World) (R : Nat) (s : ByteArray) (p : Nat) (d t : Bool) : Prop where
  c0 : w.cell? ⟨R, 0, none⟩ = some (.string s)
  c1 : w.cell? ⟨R, 1, none⟩ = some (.int .i64 p)
  c2 : w.cell? ⟨R, 2, none⟩ = some (.bool d)
  c3 : w.cell? ⟨R, 3, none⟩ = some (.bool t)
  fz : ∀ j, w.frozen? ⟨R, j, none⟩ = false

/-- Below block n nothing has changed but block R. -/
structure Aw (R n : Nat) (w w' : World) : Prop where
  os : w'.os = w.os
  tape : w'.tape = w.tape
  output : w'.output = w.output
  size : w.heap.size ≤ w'.heap.size
  block : ∀ k, k < n → k ≠ R → w'.heap[k]? = w.heap[k]?

theorem Aw.refl (R n : Nat) (w : World) : Aw R n w w := ⟨rfl, rfl, rfl, Nat.le_refl _, fun _ _ _ => rfl⟩
theorem Aw.trans {R n : Nat} {a b c : World} (h : Aw R n a b) (k : Aw R n b c) : Aw R n a c :=
  ⟨k.os.trans h.os, k.tape.trans h.tape, k.output.trans h.output, Nat.le_trans h.size k.size, fun i hi hr => (k.block i hi hr).trans (h.block i hi hr)⟩
theorem Aw.mono {R n m : Nat} {a b : World} (h : Aw R n a b) (hm : m ≤ n) : Aw R m a b := ⟨h.os, h.tape, h.output, h.size, fun i hi => h.block i (by omega)⟩
theorem Aw.of {R n : Nat} {a b : World} (h : Below n a b) : Aw R n a b := ⟨h.os, h.tape, h.output, h.size, fun i hi _ => h.block i hi⟩
theorem Aw.drew {R n : Nat} {a b : World} (h : Aw R n a b) : Aw R n a b.drew := ⟨h.os, h.tape, h.output, h.size, h.block⟩
theorem Aw.alloc {R n : Nat} {a b : World} (h : Aw R n a b) (hn : n ≤ b.heap.size) (o : Obj) : Aw R n a (b.alloc o) := h.trans (.of ((Below.refl n b).alloc hn o))
theorem Aw.set {R n j : Nat} {a b : World} (h : Aw R n a b) (v : Value) : Aw R n a (b.setCell ⟨R, j, none⟩ v) :=
  h.trans ⟨rfl, rfl, rfl, by simp [World.setCell], fun k _ hr => Below.heap_setCell _ _ _ _ hr⟩
theorem Aw.setNew {R n : Nat} {a b : World} (h : Aw R n a b) {q : Addr} (hq : n ≤ q.block) (v : Value) : Aw R n a (b.setCell q v) := h.trans (.of ((Below.refl n b).setCell hq v))
theorem Aw.cell {R n : Nat} {a b : World} (h : Aw R n a b) {k o : Nat} (hk : k < n) (hr : k ≠ R) : b.cell? ⟨k, o, none⟩ = a.cell? ⟨k, o, none⟩ := World.cell?_of_block (a := ⟨k, o, none⟩) (h.block k hk hr)
theorem Aw.frozen {R n : Nat} {a b : World} (h : Aw R n a b) {k o : Nat} (hk : k < n) (hr : k ≠ R) : b.frozen? ⟨k, o, none⟩ = a.frozen? ⟨k, o, none⟩ := World.frozen?_of_block (a := ⟨k, o, none⟩) (h.block k hk hr)
theorem Aw.below {R n : Nat} {a b : World} (h : Aw R n a b) (hn : n ≤ R) : Below n a b := ⟨h.os, h.tape, h.output, h.size, fun k hk => h.block k hk (by omega)⟩

theorem Rdr.lt {w : World} {R : Nat} {s : ByteArray} {p : Nat} {d t : Bool} (h : Rdr w R s p d t) : R < w.heap.size := by
  have h0 := h.c0
  unfold World.cell? at h0
  by_cases hl : R < w.heap.size
  · exact hl
  · simp only [Array.getElem?_eq_none (show w.heap.size ≤ R by omega)] at h0
    cases h0
theorem Rdr.keep {w w' : World} {R : Nat} {s : ByteArray} {p : Nat} {d t : Bool} (h : Rdr w R s p d t) (hb : w'.heap[R]? = w.heap[R]?) : Rdr w' R s p d t := by
  have c : ∀ o, w'.cell? ⟨R, o, none⟩ = w.cell? ⟨R, o, none⟩ := fun o => World.cell?_of_block (a := ⟨R, o, none⟩) hb
  exact ⟨(c 0).trans h.c0, (c 1).trans h.c1, (c 2).trans h.c2, (c 3).trans h.c3, fun j => (World.frozen?_of_block (a := ⟨R, j, none⟩) hb).trans (h.fz j)⟩
theorem Rdr.below {w w' : World} {R n : Nat} {s : ByteArray} {p : Nat} {d t : Bool} (h : Rdr w R s p d t) (hb : Below n w w') (hn : R < n) : Rdr w' R s p d t := h.keep (hb.block R hn)
theorem Rdr.alloc {w : World} {R : Nat} {s : ByteArray} {p : Nat} {d t : Bool} (h : Rdr w R s p d t) (o : Obj) : Rdr (w.alloc o) R s p d t := h.keep (Below.heap_alloc w o R h.lt)
theorem Rdr.setOther {w : World} {R : Nat} {s : ByteArray} {p : Nat} {d t : Bool} (h : Rdr w R s p d t) {q : Addr} (hq : R ≠ q.block) (v : Value) : Rdr (w.setCell q v) R s p d t := h.keep (Below.heap_setCell _ _ _ _ hq)
theorem Rdr.setAt {w : World} {R : Nat} {s : ByteArray} {p : Nat} {d t : Bool} (h : Rdr w R s p d t) (q : Nat) : Rdr (w.setCell ⟨R, 1, none⟩ (.int .i64 q)) R s q d t :=
  ⟨(World.cell?_setCell_other _ _ _ _ (by simp)).trans h.c0, World.cell?_setCell_same _ _ _ h.c1, (World.cell?_setCell_other _ _ _ _ (by simp)).trans h.c2, (World.cell?_setCell_other _ _ _ _ (by simp)).trans h.c3, fun j => (World.frozen?_setCell _ _ _ _).trans (h.fz j)⟩
theorem Rdr.setDeep {w : World} {R : Nat} {s : ByteArray} {p : Nat} {d t : Bool} (h : Rdr w R s p d t) (q : Bool) : Rdr (w.setCell ⟨R, 2, none⟩ (.bool q)) R s p q t :=
  ⟨(World.cell?_setCell_other _ _ _ _ (by simp)).trans h.c0, (World.cell?_setCell_other _ _ _ _ (by simp)).trans h.c1, World.cell?_setCell_same _ _ _ h.c2, (World.cell?_setCell_other _ _ _ _ (by simp)).trans h.c3, fun j => (World.frozen?_setCell _ _ _ _).trans (h.fz j)⟩
theorem Rdr.setTwice {w : World} {R : Nat} {s : ByteArray} {p : Nat} {d t : Bool} (h : Rdr w R s p d t) (q : Bool) : Rdr (w.setCell ⟨R, 3, none⟩ (.bool q)) R s p d q :=
  ⟨(World.cell?_setCell_other _ _ _ _ (by simp)).trans h.c0, (World.cell?_setCell_other _ _ _ _ (by simp)).trans h.c1, (World.cell?_setCell_other _ _ _ _ (by simp)).trans h.c2, World.cell?_setCell_same _ _ _ h.c3, fun j => (World.frozen?_setCell _ _ _ _).trans (h.fz j)⟩

theorem Rdr.drewN {w : World} {R : Nat} {s : ByteArray} {p : Nat} {d t : Bool} (h : Rdr w R s p d t) (m : Nat) : Rdr (w.drewN m) R s p d t := h.keep rfl
theorem Aw.drewN {R n : Nat} {a b : World} (h : Aw R n a b) (m : Nat) : Aw R n a (b.drewN m) := ⟨h.os, h.tape, h.output, h.size, h.block⟩
theorem Rdr.setAtI {w : World} {R : Nat} {s : ByteArray} {p : Nat} {d t : Bool} (h : Rdr w R s p d t) {z : Int} {q : Nat} (hz : z = q) : Rdr (w.setCell ⟨R, 1, none⟩ (.int .i64 z)) R s q d t := by
  subst hz
  exact h.setAt q

/-- The reader stands ahead of l; nothing else has changed. -/
def Now (R : Nat) (s : ByteArray) (d t : Bool) (w : World) (l : List UInt8) (w' : World) : Prop := ∃ p, p ≤ s.size ∧ s.data.toList.drop p = l ∧ Rdr w' R s p d t ∧ Aw R w.heap.size w w'

def pe (c : Int) : PanicEntry := { v := .iface 53 (.agg #[.int .i64 c]), recovered := false }
/-- It has ended there: no text. -/
def Bad (R : Nat) (w : World) (e : Ending) (w' : World) : Prop := e = .panicked [pe 2] ∧ Aw R w.heap.size w w'

theorem fail_any (c : Int) (w : World) : Calls Tryd.prog 22 #[.int .i64 c] w fun e w' => e = .panicked [pe c] ∧ w = w' := by
  go_enter Tryd.func22, Tryd.ntmps22
  go_wp2_with fail
  exact ⟨rfl, rfl, rfl⟩

theorem isBlank_any (b : UInt8) (w : World) : Calls Tryd.prog 46 #[.int .u8 b.toNat] w fun e w' => e = .returned (.bool (blankU b)) ∧ w' = w := by
  have hb : blankU b = (((b.toNat : Int) == 32) || ((b.toNat : Int) == 9) || ((b.toNat : Int) == 10) || ((b.toNat : Int) == 13)) := by
    unfold blankU
    rw [Bool.eq_iff_iff]
    simp only [Bool.or_eq_true, beq_iff_eq, ← UInt8.toNat_inj]
    simp
    omega
  have HB := Lib.hid hb
  clear hb
  cases h1 : ((b.toNat : Int) == 32) <;> cases h2 : ((b.toNat : Int) == 9) <;> cases h3 : ((b.toNat : Int) == 10) <;> cases h4 : ((b.toNat : Int) == 13)
  all_goals
    rw [h1, h2, h3, h4] at HB
    generalize (b.toNat : Int) = c at *
    go_enter Tryd.func46, Tryd.ntmps46
    go_wp2_with fail
    go_ret
    exact ⟨ret_bool (by rw [HB.out]; rfl), rfl⟩

theorem sk_at (s : ByteArray) (q : Nat) (h : q < s.size) : sk (s.data.toList.drop q) = if blankU s[q] then sk (s.data.toList.drop (q + 1)) else s.data.toList.drop q := by
  rw [drop_cons s q h, sk_cons]

set_option maxHeartbeats 1000000 in
set_option maxRecDepth 100000 in
theorem skip_any (R : Nat) (s : ByteArray) (p : Nat) (d t : Bool) (w : World) (h : Rdr w R s p d t) (hp : p ≤ s.size) (hs : s.size ≤ 4000) :
    Calls Tryd.prog 32 #[.pointer (some ⟨R, 0, none⟩)] w fun e w' => e = .returned (.tuple #[]) ∧ Now R s d t w (sk (s.data.toList.drop p)) w' := by
  go_enter Tryd.func32, Tryd.ntmps32
  go_wp2_with fail
  go_loopg [] (s.size - p) (fun k wr => ∃ q, k = s.size - q ∧ q ≤ s.size ∧ sk (s.data.toList.drop p) = sk (s.data.toList.drop q) ∧ Rdr wr R s q d t ∧ Aw R w.heap.size w wr)
  case atStart => exact ⟨p, rfl, hp, rfl, h, Aw.refl _ _ _⟩
  case round =>
    obtain ⟨q, rfl, hq, hsk, hr, ha⟩ := hrel
    have HSK := Lib.hid hsk
    have HR := Lib.hid hr
    obtain ⟨c0, c1, c2, c3, fz⟩ := hr
    clear hsk
    by_cases hlt : q < s.size
    · have hd : decide ((q : Int) < s.size) = true := decide_eq_true (by omega)
      have hat := sk_at s q hlt
      have hbl := fun W => isBlank_any s[q] W
      cases hbk : blankU s[q] with
      | true =>
        rw [hbk] at hat hbl
        have HAT := Lib.hid hat
        clear hat hbk
        go_upto_region 0 with fail
        go_quiet ((go_at_call 46; exact Calls.quiet_of_same (hbl _)))
        go_wp2_with fail
        go_roundg (s.size - (q + 1))
        case measure => omega
        case rel => exact ⟨q + 1, rfl, by omega, by rw [HSK.out, HAT.out]; rfl, (HR.out.drewN _).setAtI (by omega), (ha.drewN _).set _⟩
      | false =>
        rw [hbk] at hat hbl
        have HAT := Lib.hid hat
        clear hat hbk
        go_upto_region 0 with fail
        go_quiet ((go_at_call 46; exact Calls.quiet_of_same (hbl _)))
        go_wp2_with fail
        go_end0
        exact ⟨rfl, q, by omega, by rw [HSK.out, HAT.out]; rfl, HR.out.drewN _, ha.drewN _⟩
    · have hd : decide ((q : Int) < s.size) = false := decide_eq_false (by omega)
      go_upto_region 0 with fail
      go_quiet (fail)
      go_wp2_with fail
      go_end0
      exact ⟨rfl, q, by omega, by rw [HSK.out, drop_end s q hlt]; rfl, HR.out.drewN _, ha.drewN _⟩

theorem sk_sk (l : List UInt8) : sk (sk l) = sk l := by
  induction l with
  | nil => rfl
  | cons b l ih =>
    rw [sk_cons]
    split
    · exact ih
    · rename_i h
      rw [sk_cons, if_neg h]

theorem hd_at (s : ByteArray) (q : Nat) (h : q < s.size) : hd (s.data.toList.drop q) = s[q] := by
  rw [drop_cons s q h]; rfl
theorem hd_end (s : ByteArray) (q : Nat) (h : ¬ q < s.size) : hd (s.data.toList.drop q) = 0 := by
  rw [drop_end s q h]; rfl

set_option maxHeartbeats 1000000 in
set_option maxRecDepth 100000 in
theorem next_any (R : Nat) (s : ByteArray) (p : Nat) (d t : Bool) (w : World) (h : Rdr w R s p d t) (hp : p ≤ s.size) (hs : s.size ≤ 4000) :
    Calls Tryd.prog 39 #[.pointer (some ⟨R, 0, none⟩)] w fun e w' => e = .returned (.int .u8 (hd (sk (s.data.toList.drop p))).toNat) ∧ Now R s d t w (sk (s.data.toList.drop p)) w' := by
  go_enter Tryd.func39, Tryd.ntmps39
  go_wp2_with fail
  refine (skip_any R s p d t _ h hp hs).mono ?_
  rintro e w1 ⟨rfl, q, hq, hl, hr, ha⟩
  have HL := Lib.hid hl
  have HR := Lib.hid hr
  obtain ⟨c0, c1, c2, c3, fz⟩ := hr
  clear hl
  by_cases hlt : q < s.size
  · have hd' : ((q : Int) == (s.size : Int)) = false := by simp; omega
    have HH := Lib.hid (hd_at s q hlt)
    go_wp2_with fail
    go_quiet (fail)
    go_wp2_with fail
    go_quiet (fail)
    go_wp2_with fail
    go_ret
    exact ⟨by rw [← HL.out, HH.out]; rfl, q, hq, HL.out, (HR.out.drewN _).drewN _, (ha.drewN _).drewN _⟩
  · have hd' : ((q : Int) == (s.size : Int)) = true := by simp; omega
    have HH := Lib.hid (hd_end s q hlt)
    go_wp2_with fail
    go_quiet (fail)
    go_wp2_with fail
    go_ret
    exact ⟨by rw [← HL.out, HH.out]; rfl, q, hq, HL.out, HR.out.drewN _, ha.drewN _⟩

theorem Now.trans {R : Nat} {s : ByteArray} {d t d' t' : Bool} {w w1 w2 : World} {l l' : List UInt8} (h : Now R s d t w l w1) (h' : Now R s d' t' w1 l' w2) : Now R s d' t' w l' w2 := by
  obtain ⟨p, hp, hl, hr, ha⟩ := h
  obtain ⟨p', hp', hl', hr', ha'⟩ := h'
  exact ⟨p', hp', hl', hr', ha.trans (ha'.mono ha.size)⟩
theorem Bad.after {R : Nat} {s : ByteArray} {d t : Bool} {w w1 w2 : World} {l : List UInt8} {e : Ending} (h : Now R s d t w l w1) (h' : Bad R w1 e w2) : Bad R w e w2 := by
  obtain ⟨p, hp, hl, hr, ha⟩ := h
  exact ⟨h'.1, ha.trans (h'.2.mono ha.size)⟩

set_option maxHeartbeats 1000000 in
theorem take_no (c : UInt8) (R : Nat) (s : ByteArray) (p : Nat) (d t : Bool) (w : World) (h : Rdr w R s p d t) (hp : p ≤ s.size) (hs : s.size ≤ 4000) (hc : hd (sk (s.data.toList.drop p)) ≠ c) :
    Calls Tryd.prog 51 #[.pointer (some ⟨R, 0, none⟩), .int .u8 c.toNat] w fun e w' => e = .returned (.bool false) ∧ Now R s d t w (sk (s.data.toList.drop p)) w' := by
  have hne : (((hd (sk (s.data.toList.drop p))).toNat : Int) != (c.toNat : Int)) = true := by
    simp only [bne_iff_ne, ne_eq]
    intro e
    exact hc (UInt8.toNat_inj.1 (by omega))
  have HN := next_any R s p d t w h hp hs
  generalize sk (s.data.toList.drop p) = l at *
  generalize (hd l).toNat = z at *
  clear hc h
  go_enter Tryd.func51, Tryd.ntmps51
  go_wp2_with fail
  refine HN.mono ?_
  rintro e w1 ⟨rfl, hn⟩
  go_wp2_with fail
  go_ret
  exact ⟨rfl, hn⟩

set_option maxHeartbeats 1000000 in
theorem take_yes (c : UInt8) (R : Nat) (s : ByteArray) (p : Nat) (d t : Bool) (w : World) (h : Rdr w R s p d t) (hp : p ≤ s.size) (hs : s.size ≤ 4000) (hc : hd (sk (s.data.toList.drop p)) = c) (h0 : c ≠ 0) :
    Calls Tryd.prog 51 #[.pointer (some ⟨R, 0, none⟩), .int .u8 c.toNat] w fun e w' => e = .returned (.bool true) ∧ Now R s d t w ((sk (s.data.toList.drop p)).drop 1) w' := by
  have HN := next_any R s p d t w h hp hs
  have HP := Lib.hid (hd_pos hc h0)
  rw [hc] at HN
  generalize sk (s.data.toList.drop p) = l at *
  have hne : ((c.toNat : Int) != (c.toNat : Int)) = false := by simp
  generalize c.toNat = z at *
  clear hc h
  go_enter Tryd.func51, Tryd.ntmps51
  go_wp2_with fail
  refine HN.mono ?_
  rintro e w1 ⟨rfl, q, hq, hl, hr, ha⟩
  have HL := Lib.hid hl
  have HR := Lib.hid hr
  obtain ⟨c0, c1, c2, c3, fz⟩ := hr
  clear hl
  have hlt : q < s.size := by
    have h1 := HP.out
    rw [← HL.out, len_drop] at h1
    omega
  go_wp2_with fail
  go_ret
  exact ⟨rfl, q + 1, by omega, by rw [← HL.out, List.drop_drop], HR.out.setAtI (by omega), ha.set _⟩

theorem must_no (c : UInt8) (R : Nat) (s : ByteArray) (p : Nat) (d t : Bool) (w : World) (h : Rdr w R s p d t) (hp : p ≤ s.size) (hs : s.size ≤ 4000) (hc : hd (sk (s.data.toList.drop p)) ≠ c) :
    Calls Tryd.prog 50 #[.pointer (some ⟨R, 0, none⟩), .int .u8 c.toNat] w (Bad R w) := by
  have HN := take_no c R s p d t w h hp hs hc
  clear hc h
  go_enter Tryd.func50, Tryd.ntmps50
  go_wp2_with fail
  refine HN.mono ?_
  rintro e w1 ⟨rfl, q, hq, hl, hr, ha⟩
  clear hl
  go_wp2_with fail
  refine (fail_any 2 _).mono ?_
  rintro e w2 ⟨rfl, rfl⟩
  exact ⟨rfl, rfl, ha⟩

theorem must_yes (c : UInt8) (R : Nat) (s : ByteArray) (p : Nat) (d t : Bool) (w : World) (h : Rdr w R s p d t) (hp : p ≤ s.size) (hs : s.size ≤ 4000) (hc : hd (sk (s.data.toList.drop p)) = c) (h0 : c ≠ 0) :
    Calls Tryd.prog 50 #[.pointer (some ⟨R, 0, none⟩), .int .u8 c.toNat] w fun e w' => e = .returned (.tuple #[]) ∧ Now R s d t w ((sk (s.data.toList.drop p)).drop 1) w' := by
  have HN := take_yes c R s p d t w h hp hs hc h0
  clear hc h
  go_enter Tryd.func50, Tryd.ntmps50
  go_wp2_with fail
  refine HN.mono ?_
  rintro e w1 ⟨rfl, hn⟩
  go_wp2_with fail
  go_end0
  exact ⟨rfl, hn⟩

end Go.Proofs.YtbcenaljaoejkaaDoor
