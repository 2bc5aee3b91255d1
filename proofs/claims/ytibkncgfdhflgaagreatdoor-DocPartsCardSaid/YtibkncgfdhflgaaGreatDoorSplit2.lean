/-
  What runes.splitLines answers: the walk.
-/
import Derived.Test.YtibkncgfdhflgaaGreatDoorSplit
namespace Go.Proofs.YtibkncgfdhflgaaGreatDoor
open Go.RowKit

def strVals (xs : List ByteArray) : List Value := xs.map fun x => .string x

theorem infoString : ∃ i, Tryz.prog.info? 9 = some i ∧ i.zero = some (.string ⟨#[]⟩) ∧ i.size = 1 ∧ i.bytes = 16 :=
  info_parts (by kernel_rfl)

/-- The loop's relation in runes.splitLines: the iterator in block k, the lines so far in a row of the call's own above it. -/
def SplitRel (s : ByteArray) (w : World) (a b h : Value) (wr : World) : Prop :=
  ∃ (pos beg : Nat) (beh : Bool) (xs : List ByteArray), b = .int .i64 beg ∧ h = .bool beh ∧ wr.ownsRow (w.heap.size + 1) 9 1 a xs.length (strVals xs) ∧ wr.heap[w.heap.size]? = some (.stringIter s pos) ∧ Below w.heap.size w wr ∧
    beg ≤ pos ∧ pos ≤ s.size ∧ xs.length ≤ pos ∧ linesB s.data.toList = xs.map bl ++ linesG (bl (s.extract beg pos)) beh (s.data.toList.drop pos)

def SplitPost (s : ByteArray) (w : World) (e : Ending) (w' : World) : Prop :=
  ∃ (v : Value) (xs : List ByteArray), e = .returned v ∧ w'.ownsRow w.heap.size 9 1 v xs.length (strVals xs) ∧ xs.map bl = linesB s.data.toList ∧ xs ≠ [] ∧ Below w.heap.size w w' ∧ xs.length ≤ s.size + 1

set_option maxHeartbeats 2000000 in
set_option maxRecDepth 100000 in
theorem splitLines_any (s : ByteArray) (w : World) (hs : s.size ≤ 1000000000) :
    Calls Tryz.prog 117 #[.string s] w (SplitPost s w) := by
  obtain ⟨i0, hi, hz0, hz1, hz2⟩ := infoString
  have HI0 := Lib.hid hi
  have HZ0 := Lib.hid hz0
  have HZ1 := Lib.hid hz1
  have HZ2 := Lib.hid hz2
  clear hi hz0 hz1 hz2
  go_enter Tryz.func117, Tryz.ntmps117
  go_wp2_with fail
  go_loopw [3, 4, 5] (fun a b h wr => SplitRel s w a b h wr) (fun _ _ _ wr => s.size - wr.iterPos w.heap.size)
  case atStart =>
    exact ⟨0, 0, false, [], rfl, rfl, World.ownsRow_nil _ _ _ _, World.iter_heap w s 0, (Below.refl _ w).alloc (Nat.le_refl _) _, Nat.le_refl _, Nat.zero_le _, Nat.le_refl _, by simp [linesB, bl]⟩
  case round =>
    obtain ⟨pos, beg, beh, xs, rfl, rfl, hown, hit, hbw, hbp, hps, hxp, hlin⟩ := hrel
    have HL := Lib.hid hlin
    clear hlin
    have hsz : w.heap.size < wr.heap.size := (Array.getElem?_eq_some_iff.1 hit).1
    by_cases hp : pos < s.size
    · have hnx : ∀ ty, (Instr.next (.pointer (some ⟨w.heap.size, 0, none⟩)) true ty).run Tryz.prog wr = _ := fun ty => Lib.run_next_any_at wr w.heap.size s pos ty hit hp
      by_cases h10 : (Utf8.decode s pos).1 = 10
      · have hw1 := (byte_of s pos hp 10 (by omega) h10).2
        rw [h10, hw1] at hnx
        have hbw2 := Lib.below_iterAt hbw (Nat.le_refl _) s (pos + 1)
        have HI := Lib.hid (Lib.iterAt_heap wr w.heap.size s pos (pos + 1) hit)
        have HT := Lib.hid hit
        have hown2 := ownsRow_iterAt hown (k := w.heap.size) (by omega) s (pos + 1)
        have hsz2 : (wr.iterAt w.heap.size s (pos + 1)).heap.size = wr.heap.size := Lib.iterAt_size _ _ _ _
        cases beh with
        | true =>
          have HS := Lib.hid (lines_10b s beg pos hp h10)
          clear h10 hw1 hsz2
          go_wp2_with fail
          go_roundw
          case rel => exact ⟨pos + 1, pos + 1, false, xs, by go_num, rfl, hown2, HI.out, hbw2, Nat.le_refl _, by omega, by omega, by rw [HL.out, HS.out]⟩
          case measure =>
            have e1 := iterPos_of HI.out
            have e2 := iterPos_of HT.out
            omega
        | false =>
          have HS := Lib.hid (lines_10 s beg pos hp h10)
          have hgt : w.heap.size < (wr.iterAt w.heap.size s (pos + 1)).heap.size := by omega
          clear h10 hw1 hsz2
          go_wp2_with (at_builtin; refine wpList_append_own _ rfl _ _ 42 rfl (w.heap.size + 1) 9 i0 (.string ⟨#[]⟩) 1 16 Tryz.underlying42 HI0.out HZ0.out HZ1.out HZ2.out rfl (by decide) _ _ _ rfl (hown2.alloc _) ⟨(wr.iterAt w.heap.size s (pos + 1)).heap.size, 0, none⟩ 1 1 [.string (s.extract beg pos)] rfl rfl ?c1 ?c2 ?c3 ?c4 ?c5 ?_)
          case c1 => exact cell_one_new _ _ _
          case c2 => intro u hu; simp at hu; subst hu; rfl
          case c3 => unfold maxLen; omega
          case c4 => omega
          case c5 => simp; omega
          intro v' w2 hown' hgrow _
          have HIT : Hid (w2.heap[w.heap.size]? = some (.stringIter s (pos + 1))) := by
            refine Lib.hid ?_
            rw [hgrow.block w.heap.size (by simp; omega) (fun e => by have := (hown2.lt _ e.symm).1; omega), Lib.alloc_old _ _ _ (by omega)]
            exact HI.out
          have hbw4 : Below w.heap.size w w2 := (hbw2.alloc (by omega) _).grown hgrow (by simp; omega) (fun k hk => by have := (hown2.lt k hk).1; omega)
          have HOWN := Lib.hid hown'
          clear hown' hgrow
          go_wp2_with fail
          go_roundw
          case rel =>
            refine ⟨pos + 1, pos + 1, false, xs ++ [s.extract beg pos], by go_num, rfl, ?_, HIT.out, hbw4, Nat.le_refl _, by omega, by simp; omega, ?_⟩
            · have := HOWN.out
              simpa [strVals] using this
            · rw [HL.out, HS.out]
              simp
          case measure =>
            have e1 := iterPos_of HIT.out
            have e2 := iterPos_of HT.out
            omega
      · by_cases h13 : (Utf8.decode s pos).1 = 13
        · have hw1 := (byte_of s pos hp 13 (by omega) h13).2
          rw [h13, hw1] at hnx
          have hbw2 := Lib.below_iterAt hbw (Nat.le_refl _) s (pos + 1)
          have HI := Lib.hid (Lib.iterAt_heap wr w.heap.size s pos (pos + 1) hit)
          have HT := Lib.hid hit
          have hown2 := ownsRow_iterAt hown (k := w.heap.size) (by omega) s (pos + 1)
          have hsz2 : (wr.iterAt w.heap.size s (pos + 1)).heap.size = wr.heap.size := Lib.iterAt_size _ _ _ _
          have HS := Lib.hid (lines_13 s beg pos beh hp h13)
          have hgt : w.heap.size < (wr.iterAt w.heap.size s (pos + 1)).heap.size := by omega
          clear h13 h10 hw1 hsz2
          go_wp2_with (at_builtin; refine wpList_append_own _ rfl _ _ 42 rfl (w.heap.size + 1) 9 i0 (.string ⟨#[]⟩) 1 16 Tryz.underlying42 HI0.out HZ0.out HZ1.out HZ2.out rfl (by decide) _ _ _ rfl (hown2.alloc _) ⟨(wr.iterAt w.heap.size s (pos + 1)).heap.size, 0, none⟩ 1 1 [.string (s.extract beg pos)] rfl rfl ?c1 ?c2 ?c3 ?c4 ?c5 ?_)
          case c1 => exact cell_one_new _ _ _
          case c2 => intro u hu; simp at hu; subst hu; rfl
          case c3 => unfold maxLen; omega
          case c4 => omega
          case c5 => simp; omega
          intro v' w2 hown' hgrow _
          have HIT : Hid (w2.heap[w.heap.size]? = some (.stringIter s (pos + 1))) := by
            refine Lib.hid ?_
            rw [hgrow.block w.heap.size (by simp; omega) (fun e => by have := (hown2.lt _ e.symm).1; omega), Lib.alloc_old _ _ _ (by omega)]
            exact HI.out
          have hbw4 : Below w.heap.size w w2 := (hbw2.alloc (by omega) _).grown hgrow (by simp; omega) (fun k hk => by have := (hown2.lt k hk).1; omega)
          have HOWN := Lib.hid hown'
          clear hown' hgrow
          go_wp2_with fail
          go_roundw
          case rel =>
            refine ⟨pos + 1, pos + 1, true, xs ++ [s.extract beg pos], by go_num, rfl, ?_, HIT.out, hbw4, Nat.le_refl _, by omega, by simp; omega, ?_⟩
            · have := HOWN.out
              simpa [strVals] using this
            · rw [HL.out, HS.out]
              simp
          case measure =>
            have e1 := iterPos_of HIT.out
            have e2 := iterPos_of HT.out
            omega
        · have f10 : (((Utf8.decode s pos).1 : Int) == 10) = false := by simp; omega
          have f13 : (((Utf8.decode s pos).1 : Int) == 13) = false := by simp; omega
          obtain ⟨hl1, hl2⟩ := lines_other s beg pos beh hbp hp h10 h13
          have HS := Lib.hid hl1
          have hw : 1 ≤ (Utf8.decode s pos).2 := by rw [← Lib.decodeL_drop]; exact Lib.decodeL_width _
          have hbw2 := Lib.below_iterAt hbw (Nat.le_refl _) s (pos + (Utf8.decode s pos).2)
          have HI := Lib.hid (Lib.iterAt_heap wr w.heap.size s pos (pos + (Utf8.decode s pos).2) hit)
          have HT := Lib.hid hit
          have hown2 := ownsRow_iterAt hown (k := w.heap.size) (by omega) s (pos + (Utf8.decode s pos).2)
          clear h10 h13 hl1
          go_wp2_with fail
          go_roundw
          case rel => exact ⟨pos + (Utf8.decode s pos).2, beg, false, xs, rfl, rfl, hown2, HI.out, hbw2, by omega, hl2, by omega, by rw [HL.out, HS.out]⟩
          case measure =>
            have e1 := iterPos_of HI.out
            have e2 := iterPos_of HT.out
            omega
    · have hnx : ∀ ty, (Instr.next (.pointer (some ⟨w.heap.size, 0, none⟩)) true ty).run Tryz.prog wr = _ := fun ty => Lib.run_next_end_at wr w.heap.size s pos ty hit hp
      have HS := Lib.hid (lines_end s beg pos beh hps hp)
      go_wp2_with (at_builtin; refine wpList_append_own _ rfl _ _ 42 rfl (w.heap.size + 1) 9 i0 (.string ⟨#[]⟩) 1 16 Tryz.underlying42 HI0.out HZ0.out HZ1.out HZ2.out rfl (by decide) _ _ _ rfl (hown.alloc _) ⟨wr.heap.size, 0, none⟩ 1 1 [.string (s.extract beg s.size)] rfl rfl ?c1 ?c2 ?c3 ?c4 ?c5 ?_)
      case c1 => exact cell_one_new _ _ _
      case c2 => intro u hu; simp at hu; subst hu; rfl
      case c3 => unfold maxLen; omega
      case c4 => omega
      case c5 => simp; omega
      intro v' w2 hown' hgrow _
      have hbw4 : Below w.heap.size w w2 := (hbw.alloc (by omega) _).grown hgrow (by simp; omega) (fun k hk => by have := (hown.lt k hk).1; omega)
      have HOWN := Lib.hid hown'
      clear hown' hgrow
      go_wp2_with fail
      go_ret
      refine ⟨_, xs ++ [s.extract beg s.size], rfl, ?_, ?_, by simp, hbw4, by simp; omega⟩
      · have h := HOWN.out
        have e : (xs ++ [s.extract beg s.size]).length = xs.length + 1 := by simp
        rw [e]
        refine ⟨by simp [strVals], ?_⟩
        rcases h.2 with ⟨hv, hn⟩ | ⟨g, cap, cur, hv, hb, hg, r1, r2, r3, r4⟩
        · omega
        · exact .inr ⟨g, cap, cur, hv, by omega, hg, r1, r2, r3, by rw [r4]; simp [strVals]⟩
      · rw [HL.out, HS.out]
        simp

end Go.Proofs.YtibkncgfdhflgaaGreatDoor
