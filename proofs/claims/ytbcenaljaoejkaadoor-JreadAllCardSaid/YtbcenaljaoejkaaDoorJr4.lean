/-
  jread's reader: true, false; the names of an object.
-/
import Derived.Test.YtbcenaljaoejkaaDoorJr3
namespace Go.Proofs.YtbcenaljaoejkaaDoor
open Go.RowKit Go.Maps Go.WideMaps

set_option maxHeartbeats 1000000 in
theorem truth_no (word : ByteArray) (R : Nat) (s : ByteArray) (p : Nat) (d t : Bool) (w : World) (h : Rdr w R s p d t) (hp : p ≤ s.size) (hw : Lib.hasPrefix (s.data.toList.drop p) word.data.toList = false) :
    Calls Tryd.prog 44 #[.pointer (some ⟨R, 0, none⟩), .string word] w (Bad R w) := by
  have HN := word_no word R s p d t (w.alloc (.cells #[.int .i64 0, .string ⟨#[]⟩, .slice none 0 0, .slice none 0 0] 26)) (h.alloc _) hp hw
  clear hw h
  go_enter Tryd.func44, Tryd.ntmps44
  go_wp2_with fail
  refine HN.mono ?_
  rintro e w1 ⟨rfl, ha⟩
  exact ⟨rfl, rfl, ((Aw.refl R w.heap.size w).alloc (Nat.le_refl _) _).trans (ha.mono (by simp))⟩

set_option maxHeartbeats 1000000 in
theorem truth_yes (word : ByteArray) (R : Nat) (s : ByteArray) (p : Nat) (d t : Bool) (w : World) (h : Rdr w R s p d t) (hp : p ≤ s.size) (hs : s.size ≤ 4000) (hw : Lib.hasPrefix (s.data.toList.drop p) word.data.toList = true) :
    Calls Tryd.prog 44 #[.pointer (some ⟨R, 0, none⟩), .string word] w fun e w' => e = .returned (leaf 2 word) ∧ Now R s d t w ((s.data.toList.drop p).drop word.size) w' := by
  have HN := word_yes word R s p d t (w.alloc (.cells #[.int .i64 0, .string ⟨#[]⟩, .slice none 0 0, .slice none 0 0] 26)) (h.alloc _) hp hs hw
  have hlt := h.lt
  clear hw h
  go_enter Tryd.func44, Tryd.ntmps44
  go_wp2_with fail
  refine HN.mono ?_
  rintro e w1 ⟨rfl, q, hq, hl, hr, ha⟩
  have HL := Lib.hid hl
  have hne : R ≠ w.heap.size := by omega
  have hx : Bx w1 w.heap.size := (Bx.new w).keep (ha.block w.heap.size (by simp) hne.symm)
  have ha1 : Aw R w.heap.size w w1 := ((Aw.refl R w.heap.size w).alloc (Nat.le_refl _) _).trans (ha.mono (by simp))
  obtain ⟨q0, q1, q2, q3, qz⟩ := hx
  clear hl ha
  go_wp2_with fail
  refine bodyPost_ret (v := leaf 2 word) (by simp [results, Tryd.results44, go_sem, q0, q1, q2, q3, leaf]) rfl ?_
  exact ⟨rfl, q, hq, HL.out, hr.four hne _ _ _ _, ha1.four (Nat.le_refl _) _ _ _ _⟩

/-! ### the names that were seen -/
/-- The set of the names that an object has had. -/
def seenD (ns : List ByteArray) : DataW Unit := setOf (.agg []) (ns.map fun n => Lit.string (vbl n))

theorem any_string (x : List UInt8) : ∀ l : List ByteArray, (l.map fun n => Lit.string (vbl n)).any (fun y : Lit => y.sameKey (.string x)) = (l.map vbl).contains x
  | [] => rfl
  | a :: r => by
    rw [List.map_cons, List.any_cons, List.map_cons, List.contains_cons, any_string x r, lit_same]
    congr 1
    by_cases e : x = vbl a <;> simp [e]
theorem has_seen (ns : List ByteArray) (x : List UInt8) : Maps.has (seenD ns) (.string x) = (ns.map vbl).contains x := by
  unfold seenD
  rw [has_setOf _ _ _ (fun y hy => by obtain ⟨_, _, rfl⟩ := List.mem_map.1 hy; trivial)]
  exact any_string x ns
theorem seen_snoc (ns : List ByteArray) (x : List UInt8) : seenD (ns ++ [ofL x]) = (seenD ns).put (.string x) (.agg []) := by
  unfold seenD
  rw [List.map_append, List.map_singleton, setOf_snoc]
  rfl

theorem resGo_len : ∀ (n : Nat) (st : St) (l t : List UInt8), st.Ok → resGo n st l = some t → t.length ≤ st.out.length + 4 * n
  | 0, st, l, t, _, h => by
    have h' : st.fin = some t := h
    unfold St.fin at h'
    split at h'
    · injection h' with h'; rw [← h']; omega
    · cases h'
  | n + 1, st, l, t, hok, h => by
    unfold resGo at h
    split at h
    · unfold St.fin at h
      split at h
      · injection h with h; rw [← h]; omega
      · cases h
    · cases ht : st.take (Lib.decodeL l).1 with
      | none => rw [ht] at h; cases h
      | some st' =>
        rw [ht] at h
        have h1 := hok.next _ ht
        have h2 := resGo_len n st' _ t h1.1 h
        omega
theorem unq_len {l t : List UInt8} (h : unqP l = some t) : t.length ≤ 4 * l.length := by
  unfold unqP at h
  split at h
  · have h1 := resGo_len _ _ _ _ St.new_ok h
    have h2 : (innerB l).length ≤ l.length := by unfold innerB; rw [List.length_take, List.length_drop]; omega
    have h3 : St.new.out.length = 0 := rfl
    omega
  · cases h
theorem qt_len {l t r : List UInt8} (h : qt l = some (t, r)) : t.length ≤ 4 * l.length := by
  unfold qt at h
  split at h
  · simp only [Option.map_eq_some_iff] at h
    obtain ⟨t', h1, e⟩ := h
    injection e with e _
    have := unq_len h1
    rw [List.length_take] at this
    rw [← e]; omega
  · cases h

/-- Below block n nothing has changed but blocks R and M. -/
structure Aw2 (R M n : Nat) (w w' : World) : Prop where
  os : w'.os = w.os
  tape : w'.tape = w.tape
  output : w'.output = w.output
  size : w.heap.size ≤ w'.heap.size
  block : ∀ k, k < n → k ≠ R → k ≠ M → w'.heap[k]? = w.heap[k]?

abbrev Seen (w : World) (M n : Nat) (ns : List ByteArray) : Prop := w.ownsMap Tryd.prog 9 (unitElem (H := Unit)) M n (seenD ns)

theorem ownsMap_block {H : Type} {P : Program} {k : TypeId} {R : Value → Option (DataW H × List MemPlace)} {b n : Nat} {D : DataW H} {w w' : World} (h : w.ownsMap P k R b n D) (hb : w'.heap[b]? = w.heap[b]?) : w'.ownsMap P k R b n D := by
  obtain ⟨es, clock, e, r⟩ := h
  exact ⟨es, clock, hb.trans e, r⟩

theorem Aw2.of {R M n : Nat} {w W w3 : World} (ha : Aw R n w W) (hn : n ≤ W.heap.size) (hg : W.grownBy w3 (some M)) : Aw2 R M n w w3 :=
  ⟨hg.os.trans ha.os, hg.tape.trans ha.tape, hg.output.trans ha.output, Nat.le_trans ha.size hg.size, fun k hk hr hm => (hg.block k (by omega) (fun e => hm (by injection e))).trans (ha.block k hk hr)⟩
theorem Rdr.grown {W w3 : World} {R M : Nat} {s : ByteArray} {p : Nat} {d t : Bool} (h : Rdr W R s p d t) (hg : W.grownBy w3 (some M)) (hRM : R ≠ M) : Rdr w3 R s p d t := h.keep (hg.block R h.lt (fun e => hRM (by injection e)))

def NameIs (R M n : Nat) (s : ByteArray) (d t : Bool) (ns : List ByteArray) (w : World) (l : List UInt8) (e : Ending) (w' : World) : Prop :=
  if hd (sk l) = 34 then
    match qt (sk l) with
    | none => Bad R w e w'
    | some (nm, r) => e = .returned (.string (ofL nm)) ∧ ∃ p, p ≤ s.size ∧ s.data.toList.drop p = r ∧ Rdr w' R s p d (t || (ns.map vbl).contains nm) ∧ Seen w' M (n + 1) (ns ++ [ofL nm]) ∧ Aw2 R M w.heap.size w w'
  else Bad R w e w'

set_option maxHeartbeats 2000000 in
set_option maxRecDepth 100000 in
theorem name_any (R M n : Nat) (s : ByteArray) (p : Nat) (d t : Bool) (ns : List ByteArray) (w : World) (h : Rdr w R s p d t) (hp : p ≤ s.size) (hs : s.size ≤ 4000) (hM : Seen w M n ns) (hn : n ≤ 5000) (hRM : R ≠ M) :
    Calls Tryd.prog 52 #[.pointer (some ⟨R, 0, none⟩), .map (some M)] w (NameIs R M n s d t ns w (s.data.toList.drop p)) := by
  have HN := next_any R s p d t w h hp hs
  have hMlt := hM.lt
  generalize hl : s.data.toList.drop p = l at *
  have HLP := Lib.hid hl
  clear hl
  by_cases h34 : hd (sk l) = 34
  · rw [h34] at HN
    have hpos := hd_pos h34 (by decide)
    have HU := Lib.hid (show ∀ e w', NameIs R M n s d t ns w l e w' = _ from fun e w' => by unfold NameIs; rw [if_pos h34])
    clear h34
    go_enter Tryd.func52, Tryd.ntmps52
    go_wp2_with fail
    refine HN.mono ?_
    rintro e w1 ⟨rfl, q, hq, hl1, hr1, ha1⟩
    have hqs : q < s.size := by
      rw [← hl1, len_drop] at hpos; omega
    have HQ := quoted_any R s q d t w1 hr1 hqs hs
    rw [hl1] at HQ
    have HL1 := Lib.hid hl1
    clear hl1 hpos
    cases hqt : qt (sk l) with
    | none =>
      rw [hqt] at HQ
      go_wp2_with fail
      refine HQ.mono ?_
      rintro e w2 ⟨rfl, ha2⟩
      refine ⟨rfl, ?_⟩
      rw [HU.out, hqt]
      exact ⟨rfl, ha1.trans (ha2.mono ha1.size)⟩
    | some o =>
      obtain ⟨nm, r⟩ := o
      rw [hqt] at HQ
      have HF := Lib.hid hqt
      clear hqt
      go_wp2_with fail
      refine HQ.mono ?_
      rintro e w2 ⟨rfl, q2, hq2, hl2, hr2, ha2⟩
      have hnm : nm.length ≤ 16000 := by
        have h1 := qt_len HF.out
        rw [← HL1.out, len_drop] at h1
        omega
      have hM2 : Seen w2 M n ns := ownsMap_block hM ((ha2.block M (Nat.lt_of_lt_of_le hMlt ha1.size) hRM.symm).trans (ha1.block M hMlt hRM.symm))
      have hkey : keyOf Tryd.prog 9 (.string (ofL nm)) = some (.string nm) := keyOf_string_mk Tryd.underlying9 (by unfold Go.maxLen; show nm.length ≤ _; omega)
      have ha12 : Aw R w.heap.size w w2 := ha1.trans (ha2.mono ha1.size)
      have HH := Lib.hid (has_seen ns nm)
      have HT := Lib.hid (seen_snoc ns nm)
      have HL2 := Lib.hid hl2
      have HR2 := Lib.hid hr2
      obtain ⟨c0, c1, c2, c3, fz⟩ := hr2
      have hlt2 := HR2.out.lt
      clear hl2 hr1 h hM
      have HU2 := Lib.hid (show ∀ e w', NameIs R M n s d t ns w l e w' = _ from fun e w' => by rw [HU.out, HF.out])
      cases hh : Maps.has (seenD ns) (.string nm) with
      | true =>
        have HB := Lib.hid (show (t || (ns.map vbl).contains nm) = true by rw [← HH.out, hh, Bool.or_true])
        go_wp2_with (first
            | (at_lookup; refine wpList_lookup_own_unit _ rfl _ _ 79 rfl 9 84 lawS Tryd.underlying79 (zeroU _) M n _ rfl hM2 _ _ rfl hkey ?_)
            | (at_mapUpdate; refine wpList_mapUpdate_own _ rfl _ _ _ 79 rfl 9 84 lawS Tryd.underlying79 (unitElem (H := Unit)) M n _ rfl (by first | exact (hM2.alloc _).setCell (a := ⟨R, 3, none⟩) hRM.symm _ | exact (hM2.setCell (a := ⟨R, 3, none⟩) hRM.symm _).alloc _) (by unfold Go.maxLen; omega) _ _ _ rfl rfl hkey _ [] unitElem_mk ?_; intro w3 hown3 hgrow3))
        go_ret
        rw [HU2.out]
        have hr3 : Rdr w3 R s q2 d true := ((HR2.out.setTwice true).alloc _).grown hgrow3 hRM
        have hz : w.heap.size ≤ (w2.setCell ⟨R, 3, none⟩ (.bool true)).heap.size := by
          have := ha12.size
          simp only [World.setCell, Array.size_modify]
          exact this
        exact ⟨rfl, q2, hq2, HL2.out, by rw [HB.out]; exact hr3, by unfold Seen; rw [HT.out]; exact hown3, Aw2.of ((ha12.set _).alloc hz _) (by simp; simp at hz; omega) hgrow3⟩
      | false =>
        have HB := Lib.hid (show (t || (ns.map vbl).contains nm) = t by rw [← HH.out, hh, Bool.or_false])
        go_wp2_with (first
            | (at_lookup; refine wpList_lookup_own_unit _ rfl _ _ 79 rfl 9 84 lawS Tryd.underlying79 (zeroU _) M n _ rfl hM2 _ _ rfl hkey ?_)
            | (at_mapUpdate; refine wpList_mapUpdate_own _ rfl _ _ _ 79 rfl 9 84 lawS Tryd.underlying79 (unitElem (H := Unit)) M n _ rfl (hM2.alloc _) (by unfold Go.maxLen; omega) _ _ _ rfl rfl hkey _ [] unitElem_mk ?_; intro w3 hown3 hgrow3))
        go_ret
        rw [HU2.out]
        have hr3 : Rdr w3 R s q2 d t := (HR2.out.alloc _).grown hgrow3 hRM
        exact ⟨rfl, q2, hq2, HL2.out, by rw [HB.out]; exact hr3, by unfold Seen; rw [HT.out]; exact hown3, Aw2.of (ha12.alloc ha12.size _) (by simp; have := ha12.size; omega) hgrow3⟩
  · have hne : (((hd (sk l)).toNat : Int) != 34) = true := by
      simp only [bne_iff_ne, ne_eq]
      intro e
      exact h34 (UInt8.toNat_inj.1 (by simp; omega))
    have HU := Lib.hid (show ∀ e w', NameIs R M n s d t ns w l e w' = Bad R w e w' from fun e w' => by unfold NameIs; rw [if_neg h34])
    generalize (hd (sk l)).toNat = z at *
    clear h34
    go_enter Tryd.func52, Tryd.ntmps52
    go_wp2_with fail
    refine HN.mono ?_
    rintro e w1 ⟨rfl, q, hq, hl1, hr1, ha1⟩
    clear hl1
    go_wp2_with fail
    refine (fail_any 2 _).mono ?_
    rintro e w2 ⟨rfl, rfl⟩
    refine ⟨rfl, ?_⟩
    rw [HU.out]
    exact ⟨rfl, ha1⟩

end Go.Proofs.YtbcenaljaoejkaaDoor
