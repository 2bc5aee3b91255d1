/-
  strings.IndexAny of an end of a line, at every text; lex.remarkSize.
-/
import Derived.Test.YtibkncgfdhflgaaGreatDoorLx1
import Derived.Test.YtibkncgfdhflgaaGreatDoorShelf
import Derived.Test.YtibkncgfdhflgaaGreatDoorLx2
import Derived.WalkMore
import Derived.Scope
import Derived.Deep.QuietTactic
import Derived.BigQuiet
namespace Go.Proofs.YtibkncgfdhflgaaGreatDoor
open Go.RowKit

theorem ret_int {k : IntKind} {a b : Int} (h : a = b) : Ending.returned (.int k a) = .returned (.int k b) := by rw [h]
def endsS : ByteArray := ⟨#[10, 13]⟩

set_option maxHeartbeats 1000000 in
set_option maxRecDepth 100000 in
theorem indexRune_fffd (w : World) : Calls Tryz.prog 71 #[.string endsS, .int .i32 65533] w fun e w' => e = .returned (.int .i64 (-1)) ∧ Below w.heap.size w w' := by
  have hsz : endsS.size = 2 := rfl
  go_enter Tryz.func71, Tryz.ntmps71
  go_wp2_with fail
  go_loopw [5, 6] (fun _ _ wr => ∃ pos : Nat, pos ≤ 2 ∧ wr.heap[w.heap.size]? = some (.stringIter endsS pos) ∧ Below w.heap.size w wr) (fun _ _ wr => 2 - wr.iterPos w.heap.size)
  case atStart => exact ⟨0, by omega, World.iter_heap w endsS 0, (Below.refl _ w).alloc (Nat.le_refl _) _⟩
  case round =>
    obtain ⟨pos, hp2, hit, hbw⟩ := hrel
    by_cases hp : pos < endsS.size
    · have hnx : ∀ ty, (Instr.next (.pointer (some ⟨w.heap.size, 0, none⟩)) true ty).run Tryz.prog wr = _ := fun ty => Lib.run_next_any_at wr w.heap.size endsS pos ty hit hp
      have hd : (Utf8.decode endsS pos).1 < 128 ∧ (Utf8.decode endsS pos).2 = 1 := by
        have : pos = 0 ∨ pos = 1 := by omega
        rcases this with rfl | rfl
        · decide
        · decide
      obtain ⟨hd1, hd2⟩ := hd
      rw [hd2] at hnx
      have hbw2 := Lib.below_iterAt hbw (Nat.le_refl _) endsS (pos + 1)
      have HI := Lib.hid (Lib.iterAt_heap wr w.heap.size endsS pos (pos + 1) hit)
      have HT := Lib.hid hit
      have hne : (((Utf8.decode endsS pos).1 : Int) == 65533) = false := by simp; omega
      clear hd1 hd2
      go_wp2_with fail
      go_roundw
      case rel => exact ⟨pos + 1, by omega, HI.out, hbw2⟩
      case measure =>
        have e1 := iterPos_of HI.out
        have e2 := iterPos_of HT.out
        omega
    · have hnx : ∀ ty, (Instr.next (.pointer (some ⟨w.heap.size, 0, none⟩)) true ty).run Tryz.prog wr = _ := fun ty => Lib.run_next_end_at wr w.heap.size endsS pos ty hit hp
      go_wp2_with fail
      go_ret
      exact ⟨rfl, hbw⟩

theorem two_bytes {E : ByteArray} (h : E.size = 2) (hl : ∀ h : E.size - 1 < E.size, 128 ≤ (E[E.size - 1]'h).toNat) : ∃ a b : UInt8, E = ⟨#[a, b]⟩ ∧ 128 ≤ b.toNat := by
  obtain ⟨⟨l⟩⟩ := E
  match l, h with
  | [a, b], _ => exact ⟨a, b, rfl, hl (by show 2 - 1 < 2; omega)⟩

set_option maxHeartbeats 1000000 in
set_option maxRecDepth 100000 in
theorem indexRune_high (r : Int) (h1 : 128 ≤ r) (w : World) : Calls Tryz.prog 71 #[.string endsS, .int .i32 r] w fun e w' => e = .returned (.int .i64 (-1)) ∧ Below w.heap.size w w' := by
  by_cases h3 : r = 65533
  · subst h3; exact indexRune_fffd w
  · unfold endsS
    have hd0 : decide (0 ≤ r) = true := decide_eq_true (by omega)
    have hd1 : decide (r < 128) = false := decide_eq_false (by omega)
    have hd2 : (r == 65533) = false := by simpa using h3
    have hV := fun W => Tryz.utf8_ValidRune r W
    cases hv : Lib.validRune r with
    | false =>
      rw [hv] at hV
      clear hv
      go_enter Tryz.func71, Tryz.ntmps71
      go_wp2_with fail
      refine (turnW (hV _)).mono ?_
      rintro e w1 ⟨rfl, rfl⟩
      go_wp2_with fail
      go_ret
      exact ⟨rfl, Below.refl _ _⟩
    | true =>
      rw [hv] at hV
      obtain ⟨f1, f2, f3⟩ := encode_facts r (by rw [validRune_eq]; exact hv) h1
      obtain ⟨E, hE⟩ : ∃ E, Utf8.encode r = E := ⟨_, rfl⟩
      rw [hE] at f1 f2 f3
      clear hv
      by_cases h2 : E.size = 2
      · obtain ⟨a, b, rfl, hb⟩ := two_bytes h2 f3
        have hn : ((((⟨#[10, 13]⟩ : ByteArray)[1]'(by decide)).toNat : Int) != (((⟨#[a, b]⟩ : ByteArray)[1]'(by show 1 < 2; omega)).toNat : Int)) = true := by
          show ((13 : Int) != (b.toNat : Int)) = true
          simp; omega
        have hI : ∀ (t : ByteArray) (W : World), t.data.toList = [] → Calls Tryz.prog 75 #[.string t, .int .u8 b.toNat] W fun e w' => e = .returned (.int .i64 (-1)) ∧ w' = W := fun t W ht => by
          have := Tryz.strings_IndexByte t b.toNat W
          rw [ht] at this
          exact this
        clear f1 f2 f3 h2
        go_enter Tryz.func71, Tryz.ntmps71
        go_wp2_with fail
        refine (turnW (hV _)).mono ?_
        rintro e w1 ⟨rfl, rfl⟩
        go_wp2_with fail
        refine wp_scope_straight ?_
        go_wp2_with fail
        refine wp_loop_rounds 1 ?_
        rw [rounds_succ]
        go_wp2_with fail
        (first | refine wp_scope_straight ?_ | skip)
        go_wp2_with fail
        go_quiet (fail)
        generalize hW : w.drewN _ = W1
        have hbN : Below w.heap.size w W1 := by rw [← hW]; exact ⟨rfl, rfl, rfl, Nat.le_refl _, fun _ _ => rfl⟩
        clear hW
        go_wp2_with fail
        go_quiet ((go_at_call 75; exact Calls.quiet_of_same (hI _ _ rfl)))
        go_wp2_with fail
        simp only [Exit.noGoto, Exit.inBlock, Exit.then]
        go_ret
        exact ⟨rfl, hbN.trans ⟨rfl, rfl, rfl, Nat.le_refl _, fun _ _ => rfl⟩⟩
      · have hlt : ¬ ((E.size : Int) - 1 < 2) := by omega
        have hl2 : decide ((E.size : Int) - 1 < 2) = false := decide_eq_false hlt
        clear f3 h2
        go_enter Tryz.func71, Tryz.ntmps71
        go_wp2_with fail
        refine (turnW (hV _)).mono ?_
        rintro e w1 ⟨rfl, rfl⟩
        go_wp2_with fail
        refine wp_scope_straight ?_
        go_wp2_with fail
        refine wp_loop_rounds 1 ?_
        rw [rounds_succ]
        go_wp2_with fail
        simp only [Exit.noGoto, Exit.inBlock]
        go_ret
        exact ⟨rfl, Below.refl _ _⟩

/-! ### IndexAny of an end of a line -/
theorem ends_has (b : UInt8) : endsS.data.toList.contains b = lxEnd b := by
  show ([10, 13] : List UInt8).contains b = _
  rw [Bool.eq_iff_iff]
  simp [lxEnd]
theorem lxRem_cons (b : UInt8) (r : List UInt8) : lxRem (b :: r) = if lxEnd b then 0 else lxRem r + 1 := by
  unfold lxRem
  rw [List.takeWhile_cons]
  cases lxEnd b <;> simp
theorem indexAny_rem (l : List UInt8) : Lib.indexAny l endsS.data.toList = if lxRem l < l.length then (lxRem l : Int) else -1 := by
  induction l with
  | nil => rfl
  | cons b r ih =>
    have hle := lxRem_le r
    rw [Lib.indexAny, ends_has, lxRem_cons, ih]
    cases lxEnd b with
    | true => simp
    | false =>
      by_cases h : lxRem r < r.length
      · rw [if_pos h]
        have h1 : ((lxRem r : Int) == -1) = false := beq_eq_false_iff_ne.2 (by omega)
        simp [h1, h]
      · rw [if_neg h]
        simp [h]
theorem rem_all (l : List UInt8) (h : ∀ b ∈ l, lxEnd b = false) (t : List UInt8) : lxRem (l ++ t) = l.length + lxRem t := by
  induction l with
  | nil => simp
  | cons b r ih =>
    rw [List.cons_append, lxRem_cons, h b (by simp), ih fun c hc => h c (by simp [hc])]
    simp
    omega
theorem end_high {b : UInt8} (h : 128 ≤ b.toNat) : lxEnd b = false := by
  unfold lxEnd
  rw [Bool.or_eq_false_iff]
  constructor <;> (rw [beq_eq_false_iff_ne]; intro e; subst e; revert h; decide)
theorem rem_step (l : List UInt8) (hne : l ≠ []) (h : 128 ≤ (Lib.decodeL l).1) : lxRem l = (Lib.decodeL l).2 + lxRem (l.drop (Lib.decodeL l).2) ∧ (Lib.decodeL l).2 ≤ l.length := by
  obtain ⟨b, t, rfl⟩ : ∃ b t, l = b :: t := by
    cases l with
    | nil => exact absurd rfl hne
    | cons b t => exact ⟨b, t, rfl⟩
  have ha : ¬ b.toNat < 128 := fun ha => by
    rw [Lib.decodeL_ascii b t ha] at h
    have : 128 ≤ b.toNat := h
    omega
  by_cases hb : (Lib.decodeL (b :: t)).1 = 65533 ∧ (Lib.decodeL (b :: t)).2 = 1
  · rw [hb.2, lxRem_cons, end_high (by omega)]
    simp
    omega
  · have hed := Lib.encode_decode (b :: t) hne hb
    have hw := Lib.decodeL_le (b :: t) hne
    refine ⟨?_, hw⟩
    conv => lhs; rw [← List.take_append_drop (Lib.decodeL (b :: t)).2 (b :: t)]
    rw [rem_all _ (fun c hc => end_high (encodeRune_high (c := ((Lib.decodeL (b :: t)).1 : Int)) (by omega) c (by rw [hed]; exact hc))), List.length_take, Nat.min_eq_left hw]
theorem rem_low (l : List UInt8) (hne : l ≠ []) (h : (Lib.decodeL l).1 < 128) : ∃ b t, l = b :: t ∧ (Lib.decodeL l).1 = b.toNat ∧ (Lib.decodeL l).2 = 1 ∧ lxRem l = if lxEnd b then 0 else lxRem t + 1 := by
  obtain ⟨b, t, rfl⟩ : ∃ b t, l = b :: t := by
    cases l with
    | nil => exact absurd rfl hne
    | cons b t => exact ⟨b, t, rfl⟩
  by_cases ha : b.toNat < 128
  · exact ⟨b, t, rfl, by rw [Lib.decodeL_ascii b t ha], by rw [Lib.decodeL_ascii b t ha], lxRem_cons b t⟩
  · exfalso
    rw [Lib.decodeL_N] at h
    have := decodeN_high (b :: t).length ((b :: t).getD 0 0).toNat ((b :: t).getD 1 0).toNat ((b :: t).getD 2 0).toNat ((b :: t).getD 3 0).toNat ha
    omega

theorem indexRune_end (b : UInt8) (hb : b.toNat < 128) (w : World) : Calls Tryz.prog 71 #[.string endsS, .int .i32 b.toNat] w fun e w' => ∃ z : Int, e = .returned (.int .i64 z) ∧ decide (0 ≤ z) = lxEnd b ∧ Below w.heap.size w w' := by
  refine (Tryz.strings_IndexRune_ascii endsS b.toNat w (by omega) (by omega)).mono ?_
  rintro e w1 ⟨rfl, hw⟩
  exact ⟨_, rfl, by rw [u8_back, idx_ge, ends_has], by rw [hw]; exact Below.refl _ _⟩

set_option maxHeartbeats 1000000 in
set_option maxRecDepth 100000 in
theorem indexAny_short (s : ByteArray) (w : World) (h8 : s.size ≤ 8) : Calls Tryz.prog 55 #[.string s, .string endsS] w fun e w' => e = .returned (.int .i64 (Lib.indexAny s.data.toList endsS.data.toList)) ∧ Below w.heap.size w w' := by
  have hU := fun W => turnW (Tryz.strings_shouldUseASCIISet (s.size : Int) W)
  rw [show decide ((8 : Int) < (s.size : Int)) = false from decide_eq_false (by omega)] at hU
  have HX := Lib.hid (indexAny_rem s.data.toList)
  have hez : (endsS.size : Int) = 2 := rfl
  have hem : endsS.toList.isEmpty = false := by rw [Lib.toList_data]; rfl
  go_enter Tryz.func55, Tryz.ntmps55
  go_wp2_with fail
  refine (hU _).mono ?_
  rintro e w1 ⟨rfl, rfl⟩
  go_wp2_with fail
  go_loopw [9, 10] (fun _ _ wr => ∃ pos : Nat, pos ≤ s.size ∧ wr.heap[w.heap.size]? = some (.stringIter s pos) ∧ Below w.heap.size w wr ∧ Hid (lxRem s.data.toList = pos + lxRem (s.data.toList.drop pos))) (fun _ _ wr => s.size - wr.iterPos w.heap.size)
  case atStart => exact ⟨0, by omega, World.iter_heap w s 0, (Below.refl _ w).alloc (Nat.le_refl _) _, Lib.hid (by simp)⟩
  case round =>
    obtain ⟨pos, hps, hit, hbw, HG⟩ := hrel
    have hsz : w.heap.size < wr.heap.size := (Array.getElem?_eq_some_iff.1 hit).1
    by_cases hp : pos < s.size
    · have hnx : ∀ ty, (Instr.next (.pointer (some ⟨w.heap.size, 0, none⟩)) true ty).run Tryz.prog wr = _ := fun ty => Lib.run_next_any_at wr w.heap.size s pos ty hit hp
      have hw : 1 ≤ (Utf8.decode s pos).2 := by rw [← Lib.decodeL_drop]; exact Lib.decodeL_width _
      have hbw2 := Lib.below_iterAt hbw (Nat.le_refl _) s (pos + (Utf8.decode s pos).2)
      have HI := Lib.hid (Lib.iterAt_heap wr w.heap.size s pos (pos + (Utf8.decode s pos).2) hit)
      have HT := Lib.hid hit
      have hz2 : (wr.iterAt w.heap.size s (pos + (Utf8.decode s pos).2)).heap.size = wr.heap.size := Lib.iterAt_size _ _ _ _
      by_cases hlo : (Lib.decodeL (s.data.toList.drop pos)).1 < 128
      · obtain ⟨b, t, ht, hr, hwd, hrem⟩ := rem_low (s.data.toList.drop pos) (drop_ne s pos hp) hlo
        have ht2 : s.data.toList.drop (pos + 1) = t := by rw [← List.drop_drop, ht]; rfl
        rw [Lib.decodeL_drop] at hr hwd hlo
        have hb : b.toNat < 128 := by omega
        have hC := fun W => indexRune_end b hb W
        rw [hr, hwd] at hnx
        rw [hwd] at hbw2 HI hz2
        have HR := Lib.hid hrem
        have HT2 := Lib.hid ht2
        clear ht hr hwd hrem ht2 hlo hw
        have HZ := Lib.hid hz2
        clear hz2
        cases he : lxEnd b with
        | true =>
          rw [he] at hC
          have HY := Lib.hid (show lxRem s.data.toList = pos by rw [HG.out, HR.out, he]; rfl)
          go_wp2_with fail
          refine (hC _).mono ?_
          rintro e w2 ⟨z, rfl, hz, b2⟩
          go_wp2_with fail
          go_ret
          refine ⟨ret_int (by rw [HX.out, HY.out, if_pos (show pos < s.data.toList.length from hp)]), hbw2.trans (b2.mono (by rw [HZ.out]; omega))⟩
        | false =>
          rw [he] at hC
          have HY := Lib.hid (show lxRem s.data.toList = pos + 1 + lxRem (s.data.toList.drop (pos + 1)) by rw [HG.out, HR.out, he, HT2.out]; simp; omega)
          go_wp2_with fail
          refine (hC _).mono ?_
          rintro e w2 ⟨z, rfl, hz, b2⟩
          have HI2 := Lib.hid ((b2.block w.heap.size (by rw [HZ.out]; omega)).trans HI.out)
          go_wp2_with fail
          go_roundw
          case rel => exact ⟨pos + 1, by omega, HI2.out, hbw2.trans (b2.mono (by rw [HZ.out]; omega)), HY⟩
          case measure =>
            have e1 := iterPos_of HI2.out
            have e2 := iterPos_of HT.out
            omega
      · obtain ⟨hrem, hwl⟩ := rem_step (s.data.toList.drop pos) (drop_ne s pos hp) (by omega)
        rw [Lib.decodeL_drop] at hlo hrem hwl
        rw [len_drop] at hwl
        rw [List.drop_drop] at hrem
        have hC := fun W => indexRune_high (Utf8.decode s pos).1 (by omega) W
        have HY := Lib.hid (show lxRem s.data.toList = pos + (Utf8.decode s pos).2 + lxRem (s.data.toList.drop (pos + (Utf8.decode s pos).2)) by rw [HG.out, hrem]; omega)
        clear hrem hlo
        generalize (Utf8.decode s pos).2 = wd at *
        generalize ((Utf8.decode s pos).1 : Int) = r at *
        have HZ := Lib.hid hz2
        clear hz2
        go_wp2_with fail
        refine (hC _).mono ?_
        rintro e w2 ⟨rfl, b2⟩
        have HI2 := Lib.hid ((b2.block w.heap.size (by rw [HZ.out]; omega)).trans HI.out)
        go_wp2_with fail
        go_roundw
        case rel => exact ⟨pos + wd, by omega, HI2.out, hbw2.trans (b2.mono (by rw [HZ.out]; omega)), HY⟩
        case measure =>
          have e1 := iterPos_of HI2.out
          have e2 := iterPos_of HT.out
          omega
    · have hnx : ∀ ty, (Instr.next (.pointer (some ⟨w.heap.size, 0, none⟩)) true ty).run Tryz.prog wr = _ := fun ty => Lib.run_next_end_at wr w.heap.size s pos ty hit hp
      have HY := Lib.hid (show lxRem s.data.toList = s.data.toList.length by
        rw [HG.out, drop_end s pos hp]
        show pos + 0 = s.size
        omega)
      go_wp2_with fail
      go_ret
      exact ⟨ret_int (by rw [HX.out, HY.out, if_neg (Nat.lt_irrefl _)]), hbw⟩

theorem indexAny_any (s : ByteArray) (w : World) (hs : s.size ≤ 1000000000) : Calls Tryz.prog 55 #[.string s, .string endsS] w fun e w' => e = .returned (.int .i64 (Lib.indexAny s.data.toList endsS.data.toList)) ∧ Below w.heap.size w w' := by
  by_cases h8 : s.size ≤ 8
  · exact indexAny_short s w h8
  · have h116 : (Tryz.prog.info? (Tryz.lays153_ren.t 116)).map (fun i => (i.zero, i.size)) = some (some (.agg (Array.replicate 256 (.bool false))), 256) := by kernel_rfl
    refine (Any.strings_IndexAny_long Tryz.lays153 (zero_of_info h116).1 (zero_of_info h116).2 s endsS w (by decide) (by omega) (by omega) (by decide) (ascii_of_all (by decide))).mono ?_
    rintro e w1 ⟨rfl, hw⟩
    refine ⟨rfl, ?_⟩
    rw [hw]
    exact ((Below.refl _ _).alloc (Nat.le_refl _) _).alloc (by simp) _

theorem remarkSize_any (s : ByteArray) (w : World) (hs : s.size ≤ 1000000000) : Calls Tryz.prog 41 #[.string s] w fun e w' => e = .returned (.int .i64 (lxRem s.data.toList)) ∧ Below w.heap.size w w' := by
  have hI := fun W => indexAny_any s W hs
  have hle := lxRem_le s.data.toList
  have hl : s.data.toList.length = s.size := rfl
  rw [indexAny_rem] at hI
  by_cases h : lxRem s.data.toList < s.data.toList.length
  · rw [if_pos h] at hI
    generalize lxRem s.data.toList = n at *
    go_enter Tryz.func41, Tryz.ntmps41
    go_wp2_with fail
    refine (hI _).mono ?_
    rintro e w1 ⟨rfl, b1⟩
    go_wp2_with fail
    go_ret
    exact ⟨rfl, b1⟩
  · rw [if_neg h] at hI
    have HN := Lib.hid (show lxRem s.data.toList = s.size by omega)
    clear h hle
    generalize lxRem s.data.toList = n at *
    go_enter Tryz.func41, Tryz.ntmps41
    go_wp2_with fail
    refine (hI _).mono ?_
    rintro e w1 ⟨rfl, b1⟩
    go_wp2_with fail
    go_ret
    exact ⟨ret_int (by rw [HN.out]), b1⟩

end Go.Proofs.YtibkncgfdhflgaaGreatDoor
