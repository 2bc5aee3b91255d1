/-
  What runes.Unquote answers.
-/
import Derived.Test.YtkahnlgedacppaaGreatDoorMUnq2
import Derived.Test.YtkahnlgedacppaaGreatDoorMQuote2
import Derived.Deep.QuietTactic
import Derived.BigQuiet
import Derived.Test.YtkahnlgedacppaaGreatDoorMSmall
namespace Go.Proofs.YtkahnlgedacppaaGreatDoor
open Go.RowKit

def St.fin (s : St) : Option (List UInt8) := if s.whole then some s.out else none
def resGo : Nat → St → List UInt8 → Option (List UInt8)
  | 0, s, _ => s.fin
  | n + 1, s, l => if l = [] then s.fin else (s.take (Lib.decodeL l).1).bind fun s' => resGo n s' (l.drop (Lib.decodeL l).2)
def res (s : St) (l : List UInt8) : Option (List UInt8) := resGo l.length s l

theorem resGo_nil : ∀ n s, resGo n s [] = s.fin
  | 0, _ => rfl
  | _ + 1, _ => by simp [resGo]
theorem resGo_fuel : ∀ (n m : Nat) (s : St) (l : List UInt8), l.length ≤ n → l.length ≤ m → resGo n s l = resGo m s l
  | 0, m, s, l, hn, _ => by
    have : l = [] := List.eq_nil_of_length_eq_zero (by omega)
    subst this
    rw [resGo_nil, resGo_nil]
  | n + 1, 0, s, l, _, hm => by
    have : l = [] := List.eq_nil_of_length_eq_zero (by omega)
    subst this
    rw [resGo_nil, resGo_nil]
  | n + 1, m + 1, s, l, hn, hm => by
    unfold resGo
    by_cases hne : l = []
    · simp [hne]
    · have hw := Lib.decodeL_width l
      have hl : 0 < l.length := List.length_pos_iff.2 hne
      rw [if_neg hne, if_neg hne]
      congr 1
      funext s'
      exact resGo_fuel n m s' _ (by rw [List.length_drop]; omega) (by rw [List.length_drop]; omega)
theorem res_nil (s : St) : res s [] = s.fin := rfl
theorem res_step (s : St) (l : List UInt8) (hne : l ≠ []) : res s l = (s.take (Lib.decodeL l).1).bind fun s' => res s' (l.drop (Lib.decodeL l).2) := by
  have hl : 0 < l.length := List.length_pos_iff.2 hne
  have hw := Lib.decodeL_width l
  obtain ⟨n, hn⟩ : ∃ n, l.length = n + 1 := ⟨l.length - 1, by omega⟩
  unfold res
  rw [hn]
  show (if l = [] then _ else _) = _
  rw [if_neg hne]
  congr 1
  funext s'
  exact resGo_fuel _ _ _ _ (by rw [List.length_drop]; omega) (Nat.le_refl _)

def St.new : St := ⟨[], false, 0, 0, 0⟩
theorem St.new_ok : St.new.Ok := ⟨by decide, by decide, by decide, by decide, by decide, .inl rfl⟩

theorem St.Ok.next {s s' : St} (hok : s.Ok) (c : Int) (h : s.take c = some s') : s'.Ok ∧ s'.out.length ≤ s.out.length + 4 := by
  have enc : ∀ r, (Lib.encodeRune r).length ≤ 4 := fun r => by have := Lib.encodeRuneZ_length r; simp [Lib.encodeRune]; omega
  have putOk : ∀ {t t' : St} {x : Int}, t.Ok → t.put x = some t' → t'.Ok ∧ t'.out.length ≤ t.out.length + 4 := by
    intro t t' x ht h'
    unfold St.put at h'
    split at h'
    · cases h'
      exact ⟨⟨ht.d0, ht.d4, ht.c0, ht.c1, ht.c2, ht.f⟩, by have := enc x; simp; omega⟩
    · cases h'
  unfold St.take at h
  split at h
  · rename_i hd
    unfold St.takeDigit at h
    have hr := hexV_range c
    split at h
    · cases h
    · rename_i hv
      have hok2 := hok.digit hd (hexV c) (by omega) hr.2
      split at h
      · cases h
        exact ⟨hok2, by simp⟩
      · unfold St.takeCode at h
        split at h
        · unfold St.join at h
          split at h
          · cases h
          · cases h
            exact ⟨⟨hok2.d0, hok2.d4, hok2.c0, hok2.c1, hok2.c2, .inl rfl⟩, by have := enc (65536 + (s.first - 55296) * 1024 + (s.code * 16 + hexV c - 56320)); simp; omega⟩
        · split at h
          · rename_i h1
            split at h
            · cases h
              exact ⟨⟨hok2.d0, hok2.d4, hok2.c0, hok2.c1, hok2.c2, .inr (by simpa [half1] using h1)⟩, by simp⟩
            · cases h
          · exact putOk (t := { s with code := s.code * 16 + hexV c, digits := s.digits - 1 }) hok2 h
  · rename_i hd
    split at h
    · unfold St.takeLetter at h
      split at h
      · cases h
        exact ⟨⟨by simp, by simp, by simp, by simp, by simp, hok.f⟩, by simp⟩
      · split at h
        · cases h
        · exact putOk (t := { s with esc := false }) ⟨hok.d0, hok.d4, hok.c0, hok.c1, hok.c2, hok.f⟩ h
    · split at h
      · cases h
        exact ⟨⟨hok.d0, hok.d4, hok.c0, hok.c1, hok.c2, hok.f⟩, by simp⟩
      · split at h
        · cases h
        · exact putOk hok h

def innerB (l : List UInt8) : List UInt8 := (l.drop 1).take (l.length - 2)
def unqP (l : List UInt8) : Option (List UInt8) := if 2 ≤ l.length ∧ l.head? = some 34 ∧ l.getLast? = some 34 ∧ Lib.validD l = true then res St.new (innerB l) else none

def PairBelow (w : World) (o : Option (List UInt8)) (e : Ending) (w' : World) : Prop :=
  Below w.heap.size w w' ∧ match o with
    | some t => e = .returned (.tuple #[.string ⟨t.toArray⟩, .bool true])
    | none => e = .returned (.tuple #[.string ⟨#[]⟩, .bool false])

theorem pair_no {w w' : World} {o : Option (List UInt8)} (h : o = none) (hb : Below w.heap.size w w') : PairBelow w o (.returned (.tuple #[.string ⟨#[]⟩, .bool false])) w' := by subst h; exact ⟨hb, rfl⟩
theorem pair_yes {w w' : World} {o : Option (List UInt8)} {t : List UInt8} (h : o = some t) (hb : Below w.heap.size w w') : PairBelow w o (.returned (.tuple #[.string ⟨t.toArray⟩, .bool true])) w' := by subst h; exact ⟨hb, rfl⟩

theorem head_at (s : ByteArray) (h : 0 < s.size) : s.data.toList.head? = some s[0] := by
  have := drop_cons s 0 h
  rw [List.drop_zero] at this
  rw [this]; rfl
theorem last_at (s : ByteArray) (h : 0 < s.size) : s.data.toList.getLast? = some (s[s.size - 1]'(by omega)) := by
  rw [List.getLast?_eq_getElem?]
  exact List.getElem?_eq_getElem (by show s.size - 1 < s.size; omega)
theorem inner_at (s : ByteArray) : (s.extract 1 (s.size - 1)).data.toList = innerB s.data.toList := by
  rw [Lib.extract_data]
  unfold innerB
  have : s.size - 1 - 1 = s.data.toList.length - 2 := by show _ = s.size - 2; omega
  rw [this]

theorem unqP_no (l : List UInt8) (h : ¬ (2 ≤ l.length ∧ l.head? = some 34 ∧ l.getLast? = some 34 ∧ Lib.validD l = true)) : unqP l = none := by unfold unqP; rw [if_neg h]
theorem unqP_yes (l : List UInt8) (h : 2 ≤ l.length ∧ l.head? = some 34 ∧ l.getLast? = some 34 ∧ Lib.validD l = true) : unqP l = res St.new (innerB l) := by unfold unqP; rw [if_pos h]

set_option maxHeartbeats 1000000 in
theorem unquote_short (s : ByteArray) (w : World) (h2 : s.size < 2) :
    Calls Tryz.prog 230 #[.string s] w (PairBelow w (unqP s.data.toList)) := by
  have HN := Lib.hid (unqP_no s.data.toList (fun h => by have : s.data.toList.length = s.size := rfl; omega))
  have hd : decide ((s.size : Int) < 2) = true := by simp; omega
  go_enter Tryz.func230, Tryz.ntmps230
  go_wp2_with fail
  go_ret2
  exact pair_no HN.out (Below.refl _ _)

set_option maxHeartbeats 1000000 in
theorem unquote_head (s : ByteArray) (w : World) (hs : s.size ≤ 1000000000) (h2 : 2 ≤ s.size) (hq : (s[0].toNat : Int) ≠ 34) :
    Calls Tryz.prog 230 #[.string s] w (PairBelow w (unqP s.data.toList)) := by
  have HN := Lib.hid (unqP_no s.data.toList (fun h => by
    have e := h.2.1
    rw [head_at s (by omega)] at e
    injection e with e
    rw [e] at hq
    exact hq rfl))
  have hd : decide ((s.size : Int) < 2) = false := by simp; omega
  have h0 : 0 < s.size := by omega
  have hq' : ((s[0].toNat : Int) != 34) = true := by simpa using hq
  clear hq
  go_enter Tryz.func230, Tryz.ntmps230
  go_wp2_with fail
  go_ret2
  exact pair_no HN.out (Below.refl _ _)

set_option maxHeartbeats 1000000 in
theorem unquote_last (s : ByteArray) (w : World) (hs : s.size ≤ 1000000000) (h2 : 2 ≤ s.size) (hq : (s[0].toNat : Int) = 34) (hl : ((s[s.size - 1]'(by omega)).toNat : Int) ≠ 34) :
    Calls Tryz.prog 230 #[.string s] w (PairBelow w (unqP s.data.toList)) := by
  have HN := Lib.hid (unqP_no s.data.toList (fun h => by
    have e := h.2.2.1
    rw [last_at s (by omega)] at e
    injection e with e
    rw [e] at hl
    exact hl rfl))
  have hd : decide ((s.size : Int) < 2) = false := by simp; omega
  have h0 : 0 < s.size := by omega
  have hq' : ((s[0].toNat : Int) != 34) = false := by simpa using hq
  have hl' : (((s[s.size - 1]'(by omega)).toNat : Int) != 34) = true := by simpa using hl
  clear hq hl
  go_enter Tryz.func230, Tryz.ntmps230
  go_wp2_with fail
  go_ret2
  exact pair_no HN.out (Below.refl _ _)

set_option maxHeartbeats 1000000 in
theorem unquote_bad (s : ByteArray) (w : World) (hs : s.size ≤ 1000000000) (h2 : 2 ≤ s.size) (hq : (s[0].toNat : Int) = 34) (hl : ((s[s.size - 1]'(by omega)).toNat : Int) = 34) (hv : Lib.validD s.data.toList = false) :
    Calls Tryz.prog 230 #[.string s] w (PairBelow w (unqP s.data.toList)) := by
  have HN := Lib.hid (unqP_no s.data.toList (fun h => by rw [hv] at h; exact absurd h.2.2.2 (by simp)))
  have hd : decide ((s.size : Int) < 2) = false := by simp; omega
  have h0 : 0 < s.size := by omega
  have hq' : ((s[0].toNat : Int) != 34) = false := by simpa using hq
  have hl' : (((s[s.size - 1]'(by omega)).toNat : Int) != 34) = false := by simpa using hl
  clear hq hl
  go_enter Tryz.func230, Tryz.ntmps230
  go_wp2_with ((go_at_call 274); (refine (valid_any _ _).mono ?_); rintro e w1 ⟨rfl, b1⟩)
  go_ret2
  exact pair_no HN.out b1

/-- The loop's relation in runes.Unquote. -/
def UnqRel (t : ByteArray) (w : World) (B : Nat) (wr : World) : Prop :=
  ∃ (pos : Nat) (st : St), RdR B B st wr ∧ st.Ok ∧ wr.heap[B + 1]? = some (.stringIter t pos) ∧ Below w.heap.size w wr ∧ res St.new t.data.toList = res st (t.data.toList.drop pos) ∧ st.out.length ≤ 4 * pos

theorem fresh_rd (w : World) : RdR w.heap.size w.heap.size St.new (w.alloc (.cells #[.pointer none, .slice none 0 0, .bool false, .int .i64 0, .int .i32 0, .int .i32 0] 298)) :=
  Bld.fresh 298 St.new.rest w

theorem res_next (t : ByteArray) (pos : Nat) (st st' : St) (hp : pos < t.size) (h : st.take (Utf8.decode t pos).1 = some st') : res st (t.data.toList.drop pos) = res st' (t.data.toList.drop (pos + (Utf8.decode t pos).2)) := by
  rw [res_step _ _ (drop_ne t pos hp), Lib.decodeL_drop, h, List.drop_drop]
  rfl
theorem res_none (t : ByteArray) (pos : Nat) (st : St) (hp : pos < t.size) (h : st.take (Utf8.decode t pos).1 = none) : res st (t.data.toList.drop pos) = none := by
  rw [res_step _ _ (drop_ne t pos hp), Lib.decodeL_drop, h]
  rfl

set_option maxHeartbeats 2000000 in
theorem unquote_good (s : ByteArray) (w : World) (hs : s.size ≤ 1000000000) (h2 : 2 ≤ s.size) (hq : (s[0].toNat : Int) = 34) (hl : ((s[s.size - 1]'(by omega)).toNat : Int) = 34) (hv : Lib.validD s.data.toList = true) :
    Calls Tryz.prog 230 #[.string s] w (PairBelow w (unqP s.data.toList)) := by
  have HN := Lib.hid (show unqP s.data.toList = res St.new (s.extract 1 (s.size - 1)).data.toList by
    rw [inner_at]
    refine unqP_yes s.data.toList ⟨h2, ?_, ?_, hv⟩
    · rw [head_at s (by omega), UInt8.toNat_inj.1 (show s[0].toNat = (34 : UInt8).toNat by simp; omega)]
    · rw [last_at s (by omega), UInt8.toNat_inj.1 (show (s[s.size - 1]'(by omega)).toNat = (34 : UInt8).toNat by simp; omega)])
  have hd : decide ((s.size : Int) < 2) = false := by simp; omega
  have h0 : 0 < s.size := by omega
  have hq' : ((s[0].toNat : Int) != 34) = false := by simpa using hq
  have hl' : (((s[s.size - 1]'(by omega)).toNat : Int) != 34) = false := by simpa using hl
  have hts : (s.extract 1 (s.size - 1)).size ≤ 1000000000 := by simp; omega
  clear hq hl
  go_enter Tryz.func230, Tryz.ntmps230
  go_wp2_with ((go_at_call 274); (refine (valid_any _ _).mono ?_); rintro e w1 ⟨rfl, b1⟩)
  have hs1 := b1.size
  have HF := fresh_rd w1
  clear hv
  generalize s.extract 1 (s.size - 1) = t at HN hts
  go_loopw [] (fun wr => UnqRel t w w1.heap.size wr) (fun wr => t.size - wr.iterPos (w1.heap.size + 1))
  case atStart =>
    refine ⟨0, St.new, Bld.alloc HF _, St.new_ok, ?_, (b1.alloc (by omega) _).alloc (by simp; omega) _, rfl, by simp [St.new]⟩
    have := World.iter_heap (w1.alloc (.cells #[.pointer none, .slice none 0 0, .bool false, .int .i64 0, .int .i32 0, .int .i32 0] 298)) t 0
    simpa using this
  case round =>
    obtain ⟨pos, st, hB, hok, hit, hbr, hres, hout⟩ := hrel
    have HRES := Lib.hid hres
    clear hres HF
    have hlt : w1.heap.size < wr.heap.size := Bld.lt hB
    by_cases hp : pos < t.size
    · have hnx : ∀ ty, (Instr.next (.pointer (some ⟨w1.heap.size + 1, 0, none⟩)) true ty).run Tryz.prog wr = _ := fun ty => Lib.run_next_any_at wr (w1.heap.size + 1) t pos ty hit hp
      have HW := Lib.hid (show 1 ≤ (Utf8.decode t pos).2 by rw [← Lib.decodeL_drop]; exact Lib.decodeL_width _)
      have hrl := decode_rune_le t pos
      have hbr2 := Lib.below_iterAt hbr (k := w1.heap.size + 1) (by omega) t (pos + (Utf8.decode t pos).2)
      have HI := Lib.hid (Lib.iterAt_heap wr (w1.heap.size + 1) t pos (pos + (Utf8.decode t pos).2) hit)
      have HT := Lib.hid hit
      have hB2 : RdR w1.heap.size w1.heap.size st (wr.iterAt (w1.heap.size + 1) t (pos + (Utf8.decode t pos).2)) := Bld.iterAt hB hit _
      have hlt2 : w1.heap.size < (wr.iterAt (w1.heap.size + 1) t (pos + (Utf8.decode t pos).2)).heap.size := Bld.lt hB2
      go_wp2_with fail
      refine (take_any _ (by omega) (by omega) hB2 hok (by omega) (by omega)).mono ?_
      rintro e w4 hpost
      cases ho : st.take (Utf8.decode t pos).1 with
      | none =>
        rw [ho] at hpost
        obtain ⟨b4, rfl⟩ := hpost
        have HN2 := Lib.hid (res_none t pos st hp ho)
        clear ho
        go_wp2_with fail
        go_ret2
        exact pair_no (by rw [HN.out, HRES.out, HN2.out]) (hbr2.trans (b4.mono (by omega)))
      | some st' =>
        rw [ho] at hpost
        obtain ⟨b4, rfl, h4, k4⟩ := hpost
        have HN2 := Lib.hid (res_next t pos st st' hp ho)
        have hok4 := hok.next _ ho
        clear ho
        go_wp2_with fail
        go_roundw
        case rel =>
          exact ⟨pos + (Utf8.decode t pos).2, st', h4, hok4.1, k4.iter HI.out (by omega), hbr2.trans (b4.mono (by omega)), by rw [HRES.out, HN2.out], by have := hok4.2; have := HW.out; omega⟩
        case measure =>
          have e1 := iterPos_of (k4.iter HI.out (by omega))
          have e2 := iterPos_of HT.out
          have e3 := HW.out
          omega
    · have hnx : ∀ ty, (Instr.next (.pointer (some ⟨w1.heap.size + 1, 0, none⟩)) true ty).run Tryz.prog wr = _ := fun ty => Lib.run_next_end_at wr (w1.heap.size + 1) t pos ty hit hp
      have HE := Lib.hid (show unqP s.data.toList = st.fin by rw [HN.out, HRES.out, drop_end t pos hp, res_nil])
      cases hwh : st.whole with
      | false =>
        have HE2 := Lib.hid (show st.fin = none by unfold St.fin; rw [hwh]; rfl)
        go_wp2_with ((go_at_call 281); (refine (whole_any hB).mono ?_); rintro e w' ⟨rfl, rfl⟩)
        go_ret2
        exact pair_no (by rw [HE.out, HE2.out]) hbr
      | true =>
        have HE2 := Lib.hid (show st.fin = some st.out by unfold St.fin; rw [hwh]; rfl)
        go_wp2_with ((go_at_call 281); (refine (whole_any hB).mono ?_); rintro e w' ⟨rfl, rfl⟩)
        refine (string_any st.out hB (by omega)).mono ?_
        rintro e w5 ⟨rfl, b5⟩
        go_wp2_with fail
        go_ret2
        exact pair_yes (by rw [HE.out, HE2.out]) (hbr.trans (b5.mono (by omega)))

theorem unquote_any (s : ByteArray) (w : World) (hs : s.size ≤ 1000000000) :
    Calls Tryz.prog 230 #[.string s] w (PairBelow w (unqP s.data.toList)) := by
  by_cases h2 : s.size < 2
  · exact unquote_short s w h2
  · by_cases hq : ((s[0]'(by omega)).toNat : Int) = 34
    · by_cases hl : ((s[s.size - 1]'(by omega)).toNat : Int) = 34
      · cases hv : Lib.validD s.data.toList with
        | true => exact unquote_good s w hs (by omega) hq hl hv
        | false => exact unquote_bad s w hs (by omega) hq hl hv
      · exact unquote_last s w hs (by omega) hq hl
    · exact unquote_head s w hs (by omega) hq

end Go.Proofs.YtkahnlgedacppaaGreatDoor
/-
  What runes.indentOf, isBlank, leastIndent, trimBlank and joinLines answer.
-/
namespace Go.Proofs.YtkahnlgedacppaaGreatDoor
open Go.RowKit

def isB (c : UInt8) : Bool := c == 32 || c == 9
def indent (l : List UInt8) : Nat := (l.takeWhile isB).length
def blankB (l : List UInt8) : Bool := indent l == l.length

theorem indent_le (l : List UInt8) : indent l ≤ l.length := by
  unfold indent
  exact (List.takeWhile_prefix isB).length_le
theorem indent_cons (c : UInt8) (t : List UInt8) : indent (c :: t) = if isB c then indent t + 1 else 0 := by
  unfold indent
  rw [List.takeWhile_cons]
  split <;> simp

/-- Is a rune a blank? -/
def isBR (c : Int) : Bool := decide (c = 32 ∨ c = 9)

theorem isBR_step (s : ByteArray) (pos : Nat) (h : pos < s.size) : isB s[pos] = isBR (Utf8.decode s pos).1 ∧ (isBR (Utf8.decode s pos).1 = true → (Utf8.decode s pos).2 = 1) := by
  by_cases ha : s[pos].toNat < 128
  · rw [decode_ascii s pos h ha]
    refine ⟨?_, fun _ => rfl⟩
    unfold isB isBR
    rw [Bool.eq_iff_iff]
    simp only [Bool.or_eq_true, beq_iff_eq, decide_eq_true_eq, ← UInt8.toNat_inj]
    have e1 : (32 : UInt8).toNat = 32 := rfl
    have e2 : (9 : UInt8).toNat = 9 := rfl
    rw [e1, e2]
    omega
  · have hh := (decode_high s pos h (by omega)).1
    have hn : isBR (Utf8.decode s pos).1 = false := by
      unfold isBR
      refine decide_eq_false ?_
      omega
    refine ⟨?_, fun h' => by rw [hn] at h'; cases h'⟩
    rw [hn]
    unfold isB
    rw [Bool.eq_false_iff]
    intro h'
    simp only [Bool.or_eq_true, beq_iff_eq, ← UInt8.toNat_inj] at h'
    have e1 : (32 : UInt8).toNat = 32 := rfl
    have e2 : (9 : UInt8).toNat = 9 := rfl
    rw [e1, e2] at h'
    omega

theorem indent_go (s : ByteArray) (pos : Nat) (h : pos < s.size) (hb : isBR (Utf8.decode s pos).1 = true) : pos + indent (s.data.toList.drop pos) = pos + 1 + indent (s.data.toList.drop (pos + 1)) := by
  rw [drop_cons s pos h, indent_cons, (isBR_step s pos h).1, hb, if_pos rfl]
  omega
theorem indent_stop (s : ByteArray) (pos : Nat) (h : pos < s.size) (hb : isBR (Utf8.decode s pos).1 = false) : pos + indent (s.data.toList.drop pos) = pos := by
  rw [drop_cons s pos h, indent_cons, (isBR_step s pos h).1, hb, if_neg (by simp)]
  omega

theorem ret_int64 {a b : Int} (h : a = b) : Ending.returned (.int .i64 a) = .returned (.int .i64 b) := by rw [h]

set_option maxHeartbeats 1000000 in
theorem indentOf_any (s : ByteArray) (w : World) :
    Calls Tryz.prog 277 #[.string s] w fun e w' => e = .returned (.int .i64 (indent s.data.toList)) ∧ Below w.heap.size w w' := by
  go_enter Tryz.func277, Tryz.ntmps277
  go_wp2
  go_loopw [] (fun wr => ∃ pos : Nat, wr.heap[w.heap.size]? = some (.stringIter s pos) ∧ Below w.heap.size w wr ∧ pos ≤ s.size ∧ Hid (indent s.data.toList = pos + indent (s.data.toList.drop pos))) (fun wr => s.size - wr.iterPos w.heap.size)
  case atStart =>
    exact ⟨0, World.iter_heap w s 0, (Below.refl _ w).alloc (Nat.le_refl _) _, Nat.zero_le _, Lib.hid (by simp)⟩
  case round =>
    obtain ⟨pos, hit, hbw, hps, HG⟩ := hrel
    by_cases hp : pos < s.size
    · have hnx : ∀ ty, (Instr.next (.pointer (some ⟨w.heap.size, 0, none⟩)) true ty).run Tryz.prog wr = _ := fun ty => Lib.run_next_any_at wr w.heap.size s pos ty hit hp
      have hbw2 := Lib.below_iterAt hbw (Nat.le_refl _) s (pos + (Utf8.decode s pos).2)
      have HI := Lib.hid (Lib.iterAt_heap wr w.heap.size s pos (pos + (Utf8.decode s pos).2) hit)
      have HT := Lib.hid hit
      have HW := Lib.hid ((isBR_step s pos hp).2)
      cases hb : isBR (Utf8.decode s pos).1 with
      | true =>
        have HS := Lib.hid (indent_go s pos hp hb)
        have HB := Lib.hid hb
        have hor : ((Utf8.decode s pos).1 : Int) = 32 ∨ ((Utf8.decode s pos).1 : Int) = 9 := by simpa [isBR] using hb
        clear hb
        rcases hor with hx | hx
        · have f1 : (((Utf8.decode s pos).1 : Int) != 32) = false := by simp [hx]
          clear hx
          go_wp2_with fail
          go_roundw
          case rel =>
            exact ⟨pos + 1, by rw [← HW.out HB.out]; exact HI.out, hbw2, by omega, Lib.hid (by rw [HG.out, HS.out])⟩
          case measure =>
            have e1 := iterPos_of HI.out
            have e2 := iterPos_of HT.out
            have e3 := HW.out HB.out
            omega
        · have f1 : (((Utf8.decode s pos).1 : Int) != 32) = true := by simp [hx]
          have f2 : (((Utf8.decode s pos).1 : Int) != 9) = false := by simp [hx]
          clear hx
          go_wp2_with fail
          go_roundw
          case rel =>
            exact ⟨pos + 1, by rw [← HW.out HB.out]; exact HI.out, hbw2, by omega, Lib.hid (by rw [HG.out, HS.out])⟩
          case measure =>
            have e1 := iterPos_of HI.out
            have e2 := iterPos_of HT.out
            have e3 := HW.out HB.out
            omega
      | false =>
        have HS := Lib.hid (indent_stop s pos hp hb)
        have hor : ¬ (((Utf8.decode s pos).1 : Int) = 32 ∨ ((Utf8.decode s pos).1 : Int) = 9) := by simpa [isBR] using hb
        have f1 : (((Utf8.decode s pos).1 : Int) != 32) = true := by simp; omega
        have f2 : (((Utf8.decode s pos).1 : Int) != 9) = true := by simp; omega
        clear hb hor
        go_wp2_with fail
        go_ret
        exact ⟨ret_int64 (by rw [HG.out, HS.out]), hbw2⟩
    · have hnx : ∀ ty, (Instr.next (.pointer (some ⟨w.heap.size, 0, none⟩)) true ty).run Tryz.prog wr = _ := fun ty => Lib.run_next_end_at wr w.heap.size s pos ty hit hp
      go_wp2
      go_ret
      exact ⟨ret_int64 (by rw [HG.out, drop_end s pos hp]; simp [indent]; omega), hbw⟩

theorem indent_size (s : ByteArray) : indent s.data.toList ≤ s.size := indent_le s.data.toList

set_option maxHeartbeats 1000000 in
theorem isBlank_any (s : ByteArray) (w : World) :
    Calls Tryz.prog 313 #[.string s] w fun e w' => e = .returned (.bool (blankB s.data.toList)) ∧ Below w.heap.size w w' := by
  have hi := indent_size s
  go_enter Tryz.func313, Tryz.ntmps313
  go_wp2_with fail
  refine (indentOf_any s w).mono ?_
  rintro e w1 ⟨rfl, b1⟩
  go_wp2_with fail
  go_ret
  refine ⟨ret_bool ?_, b1⟩
  unfold blankB
  rw [Bool.eq_iff_iff]
  simp
  omega

end Go.Proofs.YtkahnlgedacppaaGreatDoor
/-
  What runes.leastIndent answers.
-/
namespace Go.Proofs.YtkahnlgedacppaaGreatDoor
open Go.RowKit

/-- A row of strings, from place off on in block g. -/
def RowAt (w : World) (g off : Nat) (xs : List ByteArray) : Prop := g < w.heap.size ∧ ∀ i x, xs[i]? = some x → w.cell? ⟨g, off + i, none⟩ = some (.string x)

theorem RowAt.below {w w' : World} {g off : Nat} {xs : List ByteArray} (h : RowAt w g off xs) (hb : Below w.heap.size w w') : RowAt w' g off xs := by
  have hs := hb.size
  have hg := h.1
  refine ⟨by omega, fun i x hx => ?_⟩
  rw [hb.cell (p := ⟨g, off + i, none⟩) hg]
  exact h.2 i x hx


def leastStep (acc : Int) (x : List UInt8) : Int := if indent x < x.length ∧ (acc < 0 ∨ (indent x : Int) < acc) then indent x else acc
def leastF (xs : List (List UInt8)) : Int := xs.foldl leastStep (-1)
def leastI (xs : List (List UInt8)) : Int := if leastF xs < 0 then 0 else leastF xs

theorem leastF_range (xs : List (List UInt8)) (n : Nat) (h : ∀ x ∈ xs, x.length ≤ n) : ∀ acc : Int, -1 ≤ acc → acc ≤ n → -1 ≤ xs.foldl leastStep acc ∧ xs.foldl leastStep acc ≤ n := by
  induction xs with
  | nil => intro acc h0 h1; exact ⟨h0, h1⟩
  | cons x r ih =>
    intro acc h0 h1
    rw [List.foldl_cons]
    have hi := indent_le x
    have hx := h x (by simp)
    refine ih (fun y hy => h y (by simp [hy])) _ ?_ ?_
    · unfold leastStep
      split <;> omega
    · unfold leastStep
      split <;> omega

theorem leastF_snoc (xs : List (List UInt8)) (x : List UInt8) : leastF (xs ++ [x]) = leastStep (leastF xs) x := by
  unfold leastF
  rw [List.foldl_append]
  rfl



set_option maxHeartbeats 1000000 in
theorem leastIndent_any (xs : List ByteArray) (g off cap : Nat) (w : World) (hr : RowAt w g off xs) (hl : xs.length ≤ 1000000000) (hz : ∀ x ∈ xs, x.size ≤ 1000000000) :
    Calls Tryz.prog 276 #[.slice (some ⟨g, off, none⟩) xs.length cap] w fun e w' => e = .returned (.int .i64 (leastI (xs.map bl))) ∧ Below w.heap.size w w' := by
  have hrg : ∀ i, -1 ≤ leastF ((xs.take i).map bl) ∧ leastF ((xs.take i).map bl) ≤ 1000000000 := by
    intro i
    refine leastF_range _ 1000000000 ?_ (-1) (by omega) (by omega)
    intro x hx
    obtain ⟨y, hy, rfl⟩ := List.mem_map.1 hx
    exact hz y (List.mem_of_mem_take hy)
  have HRG := Lib.hid hrg
  have HZ := Lib.hid hz
  clear hrg hz
  go_enter Tryz.func276, Tryz.ntmps276
  go_wp2
  go_loopw [3, 9] (fun a i wr => ∃ (j : Nat) (L : Int), j ≤ xs.length ∧ i = .int .i64 j ∧ a = .int .i64 L ∧ Below w.heap.size w wr ∧ Hid (L = leastF ((xs.take j).map bl))) (fun _ i _ => xs.length - (intOf i).toNat)
  case atStart => exact ⟨0, -1, Nat.zero_le _, rfl, rfl, Below.refl _ _, Lib.hid rfl⟩
  case round =>
    obtain ⟨j, L, hj, rfl, rfl, hbw, HL⟩ := hrel
    have hr2 := hr.below hbw
    have hrj : -1 ≤ L ∧ L ≤ 1000000000 := by rw [HL.out]; exact HRG.out j
    by_cases hlt : j < xs.length
    · obtain ⟨x, hx⟩ : ∃ x, xs[j]? = some x := ⟨xs[j], List.getElem?_eq_getElem hlt⟩
      have hc := hr2.2 j x hx
      have hxs := HZ.out x (List.mem_of_getElem? hx)
      have HN := Lib.hid (show leastF ((xs.take (j + 1)).map bl) = leastStep L (bl x) by rw [take_next xs j x hx, List.map_append, List.map_cons, List.map_nil, leastF_snoc, HL.out])
      have hi := indent_size x
      clear hx
      go_wp2_with fail
      refine (indentOf_any x _).mono ?_
      rintro e w1 ⟨rfl, b1⟩
      have hs1 := hbw.size
      have hbw1 := hbw.trans (b1.mono hs1)
      have HD := Lib.hid (show leastStep L (bl x) = if indent x.data.toList < x.size ∧ (L < 0 ∨ (indent x.data.toList : Int) < L) then (indent x.data.toList : Int) else L from rfl)
      clear hc
      generalize indent x.data.toList = N at *
      by_cases t1 : N < x.size
      · have f1 : decide (N < x.size) = true := by simpa using t1
        by_cases t2 : L < 0
        · have f2 : decide (L < 0) = true := by simpa using t2
          go_wp2_with fail
          go_roundw
          case rel => exact ⟨j + 1, N, by omega, by go_num, rfl, hbw1, Lib.hid (by rw [HN.out, HD.out, if_pos ⟨t1, .inl t2⟩])⟩
          case measure => simp [intOf]; omega
        · have f2 : decide (L < 0) = false := by simpa using t2
          by_cases t3 : (N : Int) < L
          · have f3 : decide ((N : Int) < L) = true := by simpa using t3
            go_wp2_with fail
            go_roundw
            case rel => exact ⟨j + 1, N, by omega, by go_num, rfl, hbw1, Lib.hid (by rw [HN.out, HD.out, if_pos ⟨t1, .inr t3⟩])⟩
            case measure => simp [intOf]; omega
          · have f3 : decide ((N : Int) < L) = false := by simpa using t3
            go_wp2_with fail
            go_roundw
            case rel => exact ⟨j + 1, L, by omega, by go_num, rfl, hbw1, Lib.hid (by rw [HN.out, HD.out, if_neg (by omega)])⟩
            case measure => simp [intOf]; omega
      · have f1 : decide (N < x.size) = false := by simpa using t1
        go_wp2_with fail
        go_roundw
        case rel => exact ⟨j + 1, L, by omega, by go_num, rfl, hbw1, Lib.hid (by rw [HN.out, HD.out, if_neg (by omega)])⟩
        case measure => simp [intOf]; omega
    · have HE := Lib.hid (show leastI (xs.map bl) = max L 0 by
        have e : xs.take j = xs := List.take_of_length_le (by omega)
        have h := HL.out
        rw [e] at h
        unfold leastI
        rw [← h]
        split <;> omega)
      go_wp2_with fail
      go_ret
      exact ⟨ret_int64 (by rw [HE.out]), hbw⟩

end Go.Proofs.YtkahnlgedacppaaGreatDoor
