/-
  The document's reader of layer 3: its state; blanks, signs, words.
-/
import Derived.Test.YtbcenaljaoejkaaDoorMJr12
import Derived.Test.YtbcenaljaoejkaaDoorMRn2
namespace Go.Proofs.YtbcenaljaoejkaaDoor
open Go.RowKit

/-- The document's reader lies in block R: the text, where it stands, is it none, was something too deep, was a name there twice. -/
structure PS (w : World) (R : Nat) (s : ByteArray) (p : Nat) (b d t : Bool) : Prop where
  c0 : w.cell? ⟨R, 0, none⟩ = some (.string s)
  c1 : w.cell? ⟨R, 1, none⟩ = some (.int .i64 p)
  c2 : w.cell? ⟨R, 2, none⟩ = some (.bool b)
  c3 : w.cell? ⟨R, 3, none⟩ = some (.bool d)
  c4 : w.cell? ⟨R, 4, none⟩ = some (.bool t)
  fz : ∀ j, w.frozen? ⟨R, j, none⟩ = false

section
variable {w w' : World} {R : Nat} {s : ByteArray} {p : Nat} {b d t : Bool}
theorem PS.lt (h : PS w R s p b d t) : R < w.heap.size := World.block_lt_of_cell? w _ h.c0
theorem PS.keep (h : PS w R s p b d t) (hb : w'.heap[R]? = w.heap[R]?) : PS w' R s p b d t := by
  have c : ∀ o, w'.cell? ⟨R, o, none⟩ = w.cell? ⟨R, o, none⟩ := fun o => World.cell?_of_block (a := ⟨R, o, none⟩) hb
  exact ⟨(c 0).trans h.c0, (c 1).trans h.c1, (c 2).trans h.c2, (c 3).trans h.c3, (c 4).trans h.c4, fun j => (World.frozen?_of_block (a := ⟨R, j, none⟩) hb).trans (h.fz j)⟩
theorem PS.below {n : Nat} (h : PS w R s p b d t) (hb : Below n w w') (hn : R < n) : PS w' R s p b d t := h.keep (hb.block R hn)
theorem PS.alloc (h : PS w R s p b d t) (o : Obj) : PS (w.alloc o) R s p b d t := h.keep (Below.heap_alloc w o R h.lt)
theorem PS.setOther (h : PS w R s p b d t) {q : Addr} (hq : R ≠ q.block) (v : Value) : PS (w.setCell q v) R s p b d t := h.keep (Below.heap_setCell _ _ _ _ hq)
theorem PS.drewN (h : PS w R s p b d t) (m : Nat) : PS (w.drewN m) R s p b d t := h.keep rfl
theorem PS.drew (h : PS w R s p b d t) : PS w.drew R s p b d t := h.keep rfl
theorem PS.grown {w3 : World} {o : Option Nat} (h : PS w R s p b d t) (hg : w.grownBy w3 o) (hRM : o ≠ some R) : PS w3 R s p b d t := h.keep (hg.block R h.lt (fun e => hRM (by first | exact e | exact e.symm)))
theorem PS.setAt (h : PS w R s p b d t) (q : Nat) : PS (w.setCell ⟨R, 1, none⟩ (.int .i64 q)) R s q b d t := ⟨(World.cell?_setCell_other _ _ _ _ (by simp)).trans h.c0, World.cell?_setCell_same _ _ _ h.c1, (World.cell?_setCell_other _ _ _ _ (by simp)).trans h.c2, (World.cell?_setCell_other _ _ _ _ (by simp)).trans h.c3, (World.cell?_setCell_other _ _ _ _ (by simp)).trans h.c4, fun j => (World.frozen?_setCell _ _ _ _).trans (h.fz j)⟩
theorem PS.setBad (h : PS w R s p b d t) (q : Bool) : PS (w.setCell ⟨R, 2, none⟩ (.bool q)) R s p q d t := ⟨(World.cell?_setCell_other _ _ _ _ (by simp)).trans h.c0, (World.cell?_setCell_other _ _ _ _ (by simp)).trans h.c1, World.cell?_setCell_same _ _ _ h.c2, (World.cell?_setCell_other _ _ _ _ (by simp)).trans h.c3, (World.cell?_setCell_other _ _ _ _ (by simp)).trans h.c4, fun j => (World.frozen?_setCell _ _ _ _).trans (h.fz j)⟩
theorem PS.setDeep (h : PS w R s p b d t) (q : Bool) : PS (w.setCell ⟨R, 3, none⟩ (.bool q)) R s p b q t := ⟨(World.cell?_setCell_other _ _ _ _ (by simp)).trans h.c0, (World.cell?_setCell_other _ _ _ _ (by simp)).trans h.c1, (World.cell?_setCell_other _ _ _ _ (by simp)).trans h.c2, World.cell?_setCell_same _ _ _ h.c3, (World.cell?_setCell_other _ _ _ _ (by simp)).trans h.c4, fun j => (World.frozen?_setCell _ _ _ _).trans (h.fz j)⟩
theorem PS.setTwice (h : PS w R s p b d t) (q : Bool) : PS (w.setCell ⟨R, 4, none⟩ (.bool q)) R s p b d q := ⟨(World.cell?_setCell_other _ _ _ _ (by simp)).trans h.c0, (World.cell?_setCell_other _ _ _ _ (by simp)).trans h.c1, (World.cell?_setCell_other _ _ _ _ (by simp)).trans h.c2, (World.cell?_setCell_other _ _ _ _ (by simp)).trans h.c3, World.cell?_setCell_same _ _ _ h.c4, fun j => (World.frozen?_setCell _ _ _ _).trans (h.fz j)⟩
theorem PS.setAtI (h : PS w R s p b d t) {z : Int} {q : Nat} (hz : z = q) : PS (w.setCell ⟨R, 1, none⟩ (.int .i64 z)) R s q b d t := by
  subst hz
  exact h.setAt q
end

/-- It stands ahead of l; nothing else has changed. -/
def PNow (R : Nat) (s : ByteArray) (b d t : Bool) (w : World) (l : List UInt8) (w' : World) : Prop := ∃ p, p ≤ s.size ∧ s.data.toList.drop p = l ∧ PS w' R s p b d t ∧ Aw R w.heap.size w w'
theorem PNow.trans {R : Nat} {s : ByteArray} {b d t b' d' t' : Bool} {w w1 w2 : World} {l l' : List UInt8} (h : PNow R s b d t w l w1) (h' : PNow R s b' d' t' w1 l' w2) : PNow R s b' d' t' w l' w2 := by
  obtain ⟨p, hp, hl, hr, ha⟩ := h
  obtain ⟨p', hp', hl', hr', ha'⟩ := h'
  exact ⟨p', hp', hl', hr', ha.trans (ha'.mono ha.size)⟩

theorem blank_is (c : UInt8) : blankU c = (((c.toNat : Int) == 32) || ((c.toNat : Int) == 9) || ((c.toNat : Int) == 10) || ((c.toNat : Int) == 13)) := by
  unfold blankU
  rw [Bool.eq_iff_iff]
  simp only [Bool.or_eq_true, beq_iff_eq, ← UInt8.toNat_inj]
  simp
  omega

set_option maxHeartbeats 4000000 in
set_option maxRecDepth 100000 in
theorem pblanks_any (R : Nat) (s : ByteArray) (p : Nat) (b d t : Bool) (w : World) (h : PS w R s p b d t) (hp : p ≤ s.size) (hs : s.size ≤ 4000) :
    Calls Tryd.prog 17 #[.pointer (some ⟨R, 0, none⟩)] w fun e w' => e = .returned (.tuple #[]) ∧ PNow R s b d t w (sk (s.data.toList.drop p)) w' := by
  go_enter Tryd.func17, Tryd.ntmps17
  go_wp2_with fail
  go_loopg [] (s.size - p) (fun k wr => ∃ q, k = s.size - q ∧ q ≤ s.size ∧ sk (s.data.toList.drop p) = sk (s.data.toList.drop q) ∧ PS wr R s q b d t ∧ Aw R w.heap.size w wr)
  case atStart => exact ⟨p, rfl, hp, rfl, h, Aw.refl _ _ _⟩
  case round =>
    obtain ⟨q, rfl, hq, hsk, hr, ha⟩ := hrel
    have HSK := Lib.hid hsk
    have HR := Lib.hid hr
    obtain ⟨c0, c1, c2, c3, c4, fz⟩ := hr
    clear hsk
    by_cases hlt : q < s.size
    · have hd : decide ((q : Int) < s.size) = true := decide_eq_true (by omega)
      have HAT := Lib.hid (sk_at s q hlt)
      have HBL := Lib.hid (blank_is s[q])
      cases h0 : ((s[q].toNat : Int) == 32) with
      | true =>
        have HX := Lib.hid (show sk (s.data.toList.drop p) = sk (s.data.toList.drop (q + 1)) by rw [HSK.out, HAT.out, HBL.out, h0]; simp)
        go_upto_region 0 with fail
        go_quiet (fail)
        go_wp2_with fail
        go_roundg (s.size - (q + 1))
        case measure => omega
        case rel => exact ⟨q + 1, rfl, by omega, HX.out, (HR.out.drewN _).setAtI (by omega), (ha.drewN _).set _⟩
      | false =>
        cases h1 : ((s[q].toNat : Int) == 9) with
        | true =>
          have HX := Lib.hid (show sk (s.data.toList.drop p) = sk (s.data.toList.drop (q + 1)) by rw [HSK.out, HAT.out, HBL.out, h0, h1]; simp)
          go_upto_region 0 with fail
          go_quiet (fail)
          go_wp2_with fail
          go_roundg (s.size - (q + 1))
          case measure => omega
          case rel => exact ⟨q + 1, rfl, by omega, HX.out, (HR.out.drewN _).setAtI (by omega), (ha.drewN _).set _⟩
        | false =>
          cases h2 : ((s[q].toNat : Int) == 10) with
          | true =>
            have HX := Lib.hid (show sk (s.data.toList.drop p) = sk (s.data.toList.drop (q + 1)) by rw [HSK.out, HAT.out, HBL.out, h0, h1, h2]; simp)
            go_upto_region 0 with fail
            go_quiet (fail)
            go_wp2_with fail
            go_roundg (s.size - (q + 1))
            case measure => omega
            case rel => exact ⟨q + 1, rfl, by omega, HX.out, (HR.out.drewN _).setAtI (by omega), (ha.drewN _).set _⟩
          | false =>
            cases h3 : ((s[q].toNat : Int) == 13) with
            | true =>
              have HX := Lib.hid (show sk (s.data.toList.drop p) = sk (s.data.toList.drop (q + 1)) by rw [HSK.out, HAT.out, HBL.out, h0, h1, h2, h3]; simp)
              go_upto_region 0 with fail
              go_quiet (fail)
              go_wp2_with fail
              go_roundg (s.size - (q + 1))
              case measure => omega
              case rel => exact ⟨q + 1, rfl, by omega, HX.out, (HR.out.drewN _).setAtI (by omega), (ha.drewN _).set _⟩
            | false =>
              have HX := Lib.hid (show sk (s.data.toList.drop p) = s.data.toList.drop q by rw [HSK.out, HAT.out, HBL.out, h0, h1, h2, h3]; rfl)
              go_upto_region 0 with fail
              go_quiet (fail)
              go_wp2_with fail
              go_end0
              exact ⟨rfl, q, by omega, HX.out.symm, HR.out.drewN _, ha.drewN _⟩
    · have hd : decide ((q : Int) < s.size) = false := decide_eq_false (by omega)
      go_upto_region 0 with fail
      go_quiet (fail)
      go_wp2_with fail
      go_end0
      exact ⟨rfl, q, by omega, by rw [HSK.out, drop_end s q hlt]; rfl, HR.out.drewN _, ha.drewN _⟩

theorem u8_is (a c : UInt8) : ((a.toNat : Int) == (c.toNat : Int)) = decide (a = c) := by
  rw [Bool.eq_iff_iff, beq_iff_eq, decide_eq_true_eq, ← UInt8.toNat_inj]
  omega

set_option maxHeartbeats 2000000 in
set_option maxRecDepth 100000 in
theorem pis_no (c : UInt8) (R : Nat) (s : ByteArray) (p : Nat) (b d t : Bool) (w : World) (h : PS w R s p b d t) (hp : p ≤ s.size) (hs : s.size ≤ 4000) (hc : hd (sk (s.data.toList.drop p)) ≠ c) :
    Calls Tryd.prog 34 #[.pointer (some ⟨R, 0, none⟩), .int .u8 c.toNat] w fun e w' => e = .returned (.bool false) ∧ PNow R s b d t w (sk (s.data.toList.drop p)) w' := by
  have HN := pblanks_any R s p b d t w h hp hs
  generalize sk (s.data.toList.drop p) = l at *
  have HC := Lib.hid hc
  clear hc h
  go_enter Tryd.func34, Tryd.ntmps34
  go_wp2_with fail
  refine HN.mono ?_
  rintro e w1 ⟨rfl, q, hq, hl, hr, ha⟩
  have HL := Lib.hid hl
  have HR := Lib.hid hr
  obtain ⟨c0, c1, c2, c3, c4, fz⟩ := hr
  clear hl
  by_cases hlt : q < s.size
  · have hd' : decide ((q : Int) < s.size) = true := decide_eq_true (by omega)
    have he : ((s[q].toNat : Int) == (c.toNat : Int)) = false := by
      rw [u8_is]
      exact decide_eq_false fun e => HC.out (by rw [← HL.out, hd_at s q hlt, e])
    go_upto_region 2 with fail
    go_quiet (fail)
    go_wp2_with fail
    go_ret
    exact ⟨rfl, q, hq, HL.out, HR.out.drewN _, ha.drewN _⟩
  · have hd' : decide ((q : Int) < s.size) = false := decide_eq_false (by omega)
    go_upto_region 2 with fail
    go_quiet (fail)
    go_wp2_with fail
    go_ret
    exact ⟨rfl, q, hq, HL.out, HR.out.drewN _, ha.drewN _⟩

set_option maxHeartbeats 2000000 in
set_option maxRecDepth 100000 in
theorem pis_yes (c : UInt8) (R : Nat) (s : ByteArray) (p : Nat) (b d t : Bool) (w : World) (h : PS w R s p b d t) (hp : p ≤ s.size) (hs : s.size ≤ 4000) (hc : hd (sk (s.data.toList.drop p)) = c) (h0 : c ≠ 0) :
    Calls Tryd.prog 34 #[.pointer (some ⟨R, 0, none⟩), .int .u8 c.toNat] w fun e w' => e = .returned (.bool true) ∧ PNow R s b d t w ((sk (s.data.toList.drop p)).drop 1) w' := by
  have HN := pblanks_any R s p b d t w h hp hs
  have HP := Lib.hid (hd_pos hc h0)
  generalize sk (s.data.toList.drop p) = l at *
  have HC := Lib.hid hc
  clear hc h
  go_enter Tryd.func34, Tryd.ntmps34
  go_wp2_with fail
  refine HN.mono ?_
  rintro e w1 ⟨rfl, q, hq, hl, hr, ha⟩
  have HL := Lib.hid hl
  have HR := Lib.hid hr
  obtain ⟨c0, c1, c2, c3, c4, fz⟩ := hr
  clear hl
  have hlt : q < s.size := by
    have h1 := HP.out
    rw [← HL.out, len_drop] at h1
    omega
  have hd' : decide ((q : Int) < s.size) = true := decide_eq_true (by omega)
  have he : ((s[q].toNat : Int) == (c.toNat : Int)) = true := by
    rw [u8_is]
    exact decide_eq_true (by rw [← HC.out, ← HL.out, hd_at s q hlt])
  go_upto_region 2 with fail
  go_quiet (fail)
  go_wp2_with fail
  go_ret
  exact ⟨rfl, q + 1, by omega, by rw [← HL.out, List.drop_drop], (HR.out.drewN _).setAtI (by omega), (ha.drewN _).set _⟩

theorem pre_short {l k : List UInt8} (h : l.length < k.length) : Lib.hasPrefix l k = false := by
  rw [Bool.eq_false_iff]
  intro e
  have := (List.isPrefixOf_iff_prefix.1 e).length_le
  omega
theorem pre_take {l k : List UInt8} (_h : k.length ≤ l.length) : Lib.hasPrefix l k = (l.take k.length == k) := by
  rw [Bool.eq_iff_iff, beq_iff_eq]
  constructor
  · intro e
    exact (List.prefix_iff_eq_take.1 (List.isPrefixOf_iff_prefix.1 e)).symm
  · intro e
    exact List.isPrefixOf_iff_prefix.2 (List.prefix_iff_eq_take.2 e.symm)

set_option maxHeartbeats 2000000 in
set_option maxRecDepth 100000 in
theorem pword_any (word : ByteArray) (R : Nat) (s : ByteArray) (p : Nat) (b d t : Bool) (w : World) (h : PS w R s p b d t) (hp : p ≤ s.size) (hs : s.size ≤ 4000) (hw : word.size ≤ 10) (B : Bool) (hB : Lib.hasPrefix (s.data.toList.drop p) word.data.toList = B) (q : Nat) (hq : q = if B then p + word.size else p) :
    Calls Tryd.prog 28 #[.pointer (some ⟨R, 0, none⟩), .string word] w fun e w' => e = .returned (.bool B) ∧ PNow R s b d t w (s.data.toList.drop q) w' := by
  have HR := Lib.hid h
  have HQ := Lib.hid hq
  obtain ⟨c0, c1, c2, c3, c4, fz⟩ := h
  clear hq
  have q1 : IntKind.i64.wrap ((s.size : Int) - p) = (s.size : Int) - p := IntWalk.i64_in _ (by omega)
  by_cases hlen : word.size ≤ s.size - p
  · have hge : decide ((word.size : Int) ≤ (s.size : Int) - p) = true := decide_eq_true (by omega)
    have hsl := slice_two s p (p + word.size) (by omega) (by omega) ((p : Int) + word.size) (by omega)
    have q2 : IntKind.i64.wrap ((p : Int) + word.size) = (p : Int) + word.size := IntWalk.i64_in _ (by omega)
    have hx : ((s.extract p (p + word.size)).toList == word.toList) = B := by
      rw [← hB, pre_take (by rw [len_drop]; exact hlen), Lib.toList_data, Lib.toList_data, ext_list, Nat.add_sub_cancel_left]
      rfl
    clear hB
    cases B with
    | true =>
      generalize s.extract p (p + word.size) = ex at *
      go_enter Tryd.func28, Tryd.ntmps28
      go_upto_region 1 with fail
      go_quiet (fail)
      go_wp2_with fail
      go_ret
      exact ⟨rfl, p + word.size, by omega, by rw [HQ.out]; simp, (HR.out.drewN _).setAtI (by omega), ((Aw.refl _ _ _).drewN _).set _⟩
    | false =>
      generalize s.extract p (p + word.size) = ex at *
      go_enter Tryd.func28, Tryd.ntmps28
      go_upto_region 1 with fail
      go_quiet (fail)
      go_wp2_with fail
      go_ret
      exact ⟨rfl, p, by omega, by rw [HQ.out]; simp, HR.out.drewN _, (Aw.refl _ _ _).drewN _⟩
  · have hge : decide ((word.size : Int) ≤ (s.size : Int) - p) = false := decide_eq_false (by omega)
    obtain rfl : B = false := hB.symm.trans (pre_short (by rw [len_drop]; show s.size - p < word.size; omega))
    clear hB
    go_enter Tryd.func28, Tryd.ntmps28
    go_upto_region 1 with fail
    go_quiet (fail)
    go_wp2_with fail
    go_ret
    exact ⟨rfl, p, by omega, by rw [HQ.out]; simp, HR.out.drewN _, (Aw.refl _ _ _).drewN _⟩

end Go.Proofs.YtbcenaljaoejkaaDoor
