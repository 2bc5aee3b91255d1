/-
  value's nodes: which objects may be read; a leaf's text.
-/
import Derived.Test.YtkfllppggjhhmaaGreatDoorMV9
namespace Go.Proofs.YtkfllppggjhhmaaGreatDoor
open Go.RowKit

def NmRdRel (ns : List ByteArray) (w : World) (i : Value) (wr : World) : Prop :=
  ∃ k : Nat, k ≤ ns.length ∧ i = .int .i64 k ∧ Below w.heap.size w wr ∧ Hid (ns.all (fun n => nameB (vbl n)) = (ns.drop k).all (fun n => nameB (vbl n)))

set_option maxHeartbeats 2000000 in
set_option maxRecDepth 100000 in
theorem objectReadable_any (B : Nat) (k : Int) (s : ByteArray) (an : Option Addr) (ns : List ByteArray) (cn : Nat) (ap : Option Addr) (lp cp : Nat) (w : World) (hB : B ≤ w.heap.size) (hl : ns.length ≤ 2000000) (hs : Strs w B an ns) :
    Calls Tryz.prog 351 #[.agg #[.int .i64 k, .string s, .slice an ns.length cn, .slice ap lp cp]] w (BoolBelow (decide (s.size = 0) && decide (ns.length = lp) && ns.all (fun n => nameB (vbl n))) w) := by
  have hbA : ∀ o, Below w.heap.size w (w.alloc o) := fun o => (Below.refl _ w).alloc (Nat.le_refl _) o
  rcases str_cases s with rfl | ⟨e1, HE⟩
  · by_cases hn : ns.length = lp
    · subst hn
      have HU := Lib.hid (show (decide ((⟨#[]⟩ : ByteArray).size = 0) && decide (ns.length = ns.length) && ns.all (fun n => nameB (vbl n))) = ns.all (fun n => nameB (vbl n)) by rw [decide_eq_true rfl]; rfl)
      go_enter Tryz.func351, Tryz.ntmps351
      go_wp2_with fail
      go_loopw [4, 20] (fun _ i wr => NmRdRel ns w i wr) (fun _ i _ => ns.length - (intOf i).toNat)
      case atStart => exact ⟨0, Nat.zero_le _, rfl, hbA _, Lib.hid (by rw [List.drop_zero])⟩
      case round =>
        obtain ⟨k, hk, rfl, hbw, HN⟩ := hrel
        by_cases hlt : k < ns.length
        · obtain ⟨b, off, rfl, hb, hsz, hc⟩ := hs.at_ hlt
          have hcx : wr.cell? ⟨b, off + k, none⟩ = some (.string ns[k]) := (hbw.cell (p := ⟨b, off + k, none⟩) (by show b < _; omega)).trans hc
          have HD := Lib.hid (show (ns.drop k).all (fun n => nameB (vbl n)) = (nameB (vbl ns[k]) && (ns.drop (k + 1)).all (fun n => nameB (vbl n))) by rw [List.drop_eq_getElem_cons hlt, List.all_cons])
          clear hc
          generalize ns[k] = x at *
          have HM := name_any x wr (by unfold maxLen; omega)
          change Calls _ _ _ _ (fun e w' => e = .returned (.bool (nameB (vbl x))) ∧ _) at HM
          cases hv : nameB (vbl x) with
          | false =>
            rw [hv] at HM
            have HF := Lib.hid (show ns.all (fun n => nameB (vbl n)) = false by rw [HN.out, HD.out, hv]; rfl)
            clear hv
            go_wp2_with fail
            refine HM.mono ?_
            rintro e w1 ⟨rfl, b1⟩
            go_wp2_with fail
            go_ret
            exact boolBelow_of (by rw [HU.out, HF.out]) (hbw.trans (b1.mono hbw.size))
          | true =>
            rw [hv] at HM
            have HF := Lib.hid (show ns.all (fun n => nameB (vbl n)) = (ns.drop (k + 1)).all (fun n => nameB (vbl n)) by rw [HN.out, HD.out, hv]; rfl)
            clear hv
            go_wp2_with fail
            refine HM.mono ?_
            rintro e w1 ⟨rfl, b1⟩
            go_wp2_with fail
            go_roundw
            case rel => exact ⟨k + 1, by omega, by go_num, hbw.trans (b1.mono hbw.size), Lib.hid HF.out⟩
            case measure => simp [intOf]; omega
        · have HF := Lib.hid (show ns.all (fun n => nameB (vbl n)) = true by rw [HN.out, List.drop_of_length_le (by omega)]; rfl)
          go_wp2_with fail
          go_ret
          exact boolBelow_of (by rw [HU.out, HF.out]) hbw
    · have e2 : ((ns.length : Int) == (lp : Int)) = false := by rw [beq_eq_false_iff_ne]; omega
      have HN := Lib.hid (show (decide ((⟨#[]⟩ : ByteArray).size = 0) && decide (ns.length = lp) && ns.all (fun n => nameB (vbl n))) = false by rw [decide_eq_false hn, Bool.and_false, Bool.false_and])
      clear hn
      go_enter Tryz.func351, Tryz.ntmps351
      go_wp2_with fail
      go_ret
      exact boolBelow_of HN.out.symm (hbA _)
  · have HN := Lib.hid (show (decide (s.size = 0) && decide (ns.length = lp) && ns.all (fun n => nameB (vbl n))) = false by
      have h := HE.out
      have : s.size ≠ 0 := fun e => by
        have e2 : vbl s = [] := List.eq_nil_of_length_eq_zero e
        rw [e2] at h
        cases h
      rw [decide_eq_false this, Bool.false_and, Bool.false_and])
    go_enter Tryz.func351, Tryz.ntmps351
    go_wp2_with fail
    go_ret
    exact boolBelow_of HN.out.symm (hbA _)

theorem vbl_append (a b : ByteArray) : vbl (a ++ b) = vbl a ++ vbl b := by
  unfold vbl
  rw [ByteArray.data_append, Array.toList_append]

def TextOf (x : JV) (w : World) (e : Ending) (w' : World) : Prop := ∃ t : ByteArray, e = .returned (.string t) ∧ vbl t = leafT x ∧ Below w.heap.size w w'

set_option maxHeartbeats 1000000 in
theorem leafText_any (k : Int) (s : ByteArray) (an : Option Addr) (ln cn : Nat) (ap : Option Addr) (lp cp : Nat) (w : World) (hs : s.size ≤ 2000000) :
    Calls Tryz.prog 289 #[.agg #[.int .i64 k, .string s, .slice an ln cn, .slice ap lp cp]] w (TextOf (.mk k s [] []) w) := by
  have hbA : ∀ o, Below w.heap.size w (w.alloc o) := fun o => (Below.refl _ w).alloc (Nat.le_refl _) o
  by_cases h1 : k = 1
  · subst h1
    go_enter Tryz.func289, Tryz.ntmps289
    go_wp2_with fail
    go_ret
    exact ⟨_, rfl, rfl, hbA _⟩
  by_cases h5 : k = 5
  · subst h5
    have HQ := quote_any s (w.alloc (.cells #[.int .i64 5, .string s, .slice an ln cn, .slice ap lp cp] 303)) (by omega)
    have hb0 := hbA (.cells #[.int .i64 5, .string s, .slice an ln cn, .slice ap lp cp] 303)
    go_enter Tryz.func289, Tryz.ntmps289
    go_wp2_with fail
    refine HQ.mono ?_
    rintro e w1 ⟨rfl, b1⟩
    go_wp2_with fail
    go_ret
    exact ⟨_, rfl, rfl, hb0.trans (b1.mono (by simp))⟩
  by_cases h9 : k = 9
  · subst h9
    go_enter Tryz.func289, Tryz.ntmps289
    go_wp2_with fail
    go_ret
    exact ⟨_, rfl, by rw [vbl_append]; rfl, hbA _⟩
  have e1 : (k == 1) = false := by simpa using h1
  have e5 : (k == 5) = false := by simpa using h5
  have e9 : (k == 9) = false := by simpa using h9
  have HL := Lib.hid (show leafT (.mk k s [] []) = vbl s by unfold leafT; rw [if_neg (show ¬ (JV.mk k s [] []).k = 1 from h1), if_neg (show ¬ (JV.mk k s [] []).k = 5 from h5), if_neg (show ¬ (JV.mk k s [] []).k = 9 from h9)]; rfl)
  clear h1 h5 h9
  go_enter Tryz.func289, Tryz.ntmps289
  go_wp2_with fail
  go_ret
  exact ⟨_, rfl, HL.out.symm, hbA _⟩

end Go.Proofs.YtkfllppggjhhmaaGreatDoor
