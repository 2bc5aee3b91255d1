/-
  What lex's functions answer of names, numbers, signs.
-/
import Derived.Test.YtkahnlgedacppaaGreatDoorMLx1
import Derived.WalkSpells
import Derived.Test.YtkahnlgedacppaaGreatDoorMSmall
namespace Go.Proofs.YtkahnlgedacppaaGreatDoor
open Go.RowKit

/-- What a function that reads a word answers. -/
def tokV : Wd → Value
  | none => .tuple #[.agg #[.int .i64 0, .string ⟨#[]⟩, .int .i64 0], .int .i64 0]
  | some (k, s, n) => .tuple #[.agg #[.int .i64 k, .string ⟨s.toArray⟩, .int .i64 0], .int .i64 n]
def TokIs (w : World) (o : Wd) (e : Ending) (w' : World) : Prop := e = .returned (tokV o) ∧ Below w.heap.size w w'
theorem tok_no {w w' : World} {o : Wd} (h : o = none) (hb : Below w.heap.size w w') : TokIs w o (.returned (.tuple #[.agg #[.int .i64 0, .string ⟨#[]⟩, .int .i64 0], .int .i64 0])) w' := by subst h; exact ⟨rfl, hb⟩
theorem tok_yes {w w' : World} {o : Wd} {k : Nat} {s : List UInt8} {n : Nat} (h : o = some (k, s, n)) (hb : Below w.heap.size w w') : TokIs w o (.returned (.tuple #[.agg #[.int .i64 k, .string ⟨s.toArray⟩, .int .i64 0], .int .i64 n])) w' := by subst h; exact ⟨rfl, hb⟩

theorem ret_str {a b : ByteArray} (h : a = b) : Ending.returned (.string a) = .returned (.string b) := by rw [h]
theorem lext_list (s : ByteArray) (a b : Nat) : (s.extract a b).data.toList = (s.data.toList.drop a).take (b - a) := by
  rw [ByteArray.data_extract, Array.toList_extract]
theorem lext_all (s : ByteArray) (a : Nat) : (s.extract a s.size).data.toList = s.data.toList.drop a := by
  rw [lext_list, List.take_of_length_le]
  rw [len_drop]
  exact Nat.le_refl _
theorem lext_front (s : ByteArray) (b : Nat) : (s.extract 0 b).data.toList = s.data.toList.take b := by
  rw [lext_list]; rfl
theorem eq_ofL {s : ByteArray} {l : List UInt8} (h : s.data.toList = l) : s = ⟨l.toArray⟩ := by subst h; cases s; simp
theorem lclone_any (s : ByteArray) (w : World) (h : s.size ≤ 281474976710656) : Calls Tryz.prog 231 #[.string s] w fun e w' => e = .returned (.string s) ∧ Below w.heap.size w w' := by
  go_enter Tryz.func231, Tryz.ntmps231
  go_wp2_with fail
  refine (Tryz.stringslite_Clone s _ h).mono ?_
  rintro e w1 ⟨rfl, hb⟩
  go_wp2_with fail
  go_ret
  exact ⟨rfl, hb⟩

set_option maxHeartbeats 400000 in
theorem lxIsBlank_any (b : UInt8) (w : World) : Calls Tryz.prog 132 #[.int .u8 b.toNat] w fun e w' => e = .returned (.bool (lxBlank b)) ∧ w = w' := by
  have e1 : ((b.toNat : Int) == 32) = (b == 32) := by rw [Bool.eq_iff_iff]; simp [← UInt8.toNat_inj]; omega
  have e2 : ((b.toNat : Int) == 9) = (b == 9) := by rw [Bool.eq_iff_iff]; simp [← UInt8.toNat_inj]; omega
  have e3 : ((b.toNat : Int) == 10) = (b == 10) := by rw [Bool.eq_iff_iff]; simp [← UInt8.toNat_inj]; omega
  have e4 : ((b.toNat : Int) == 13) = (b == 13) := by rw [Bool.eq_iff_iff]; simp [← UInt8.toNat_inj]; omega
  have e5 : ((b.toNat : Int) == 44) = (b == 44) := by rw [Bool.eq_iff_iff]; simp [← UInt8.toNat_inj]; omega
  have HB := Lib.hid (show lxBlank b = (b == 32 || b == 9 || b == 10 || b == 13 || b == 44) from rfl)
  cases h1 : (b == 32) <;> cases h2 : (b == 9) <;> cases h3 : (b == 10) <;> cases h4 : (b == 13) <;> cases h5 : (b == 44) <;> rw [h1] at e1 <;> rw [h2] at e2 <;> rw [h3] at e3 <;> rw [h4] at e4 <;> rw [h5] at e5 <;>
  ((have HR := Lib.hid HB.out) ; rw [h1, h2, h3, h4, h5] at HR; clear HB h1 h2 h3 h4 h5; (go_enter Tryz.func132, Tryz.ntmps132); go_wp2; go_ret; exact ⟨ret_bool (by rw [HR.out]; rfl), rfl⟩)

theorem isOneOf_any (b : UInt8) (cs : ByteArray) (w : World) : Calls Tryz.prog 175 #[.int .u8 b.toNat, .string cs] w fun e w' => e = .returned (.bool (cs.data.toList.contains b)) ∧ w = w' := by
  have HU := Lib.hid (u8_back b)
  have HI := Lib.hid (idx_ge cs.data.toList b)
  go_enter Tryz.func175, Tryz.ntmps175
  go_wp2_with fail
  refine (turnW (Tryz.strings_IndexByte _ _ _)).mono ?_
  rintro e w1 ⟨rfl, rfl⟩
  rw [HU.out]
  go_wp2_with fail
  go_ret
  exact ⟨ret_bool (by rw [← HI.out]), rfl⟩

set_option maxHeartbeats 400000 in
theorem longest_any (s cs : ByteArray) (p : UInt8 → Bool) (w : World) (hs : s.size ≤ 1000000000) (hcs : cs.size < 4294967281) (hp : ∀ b, cs.data.toList.contains b = p b) (hascii : ∀ (j : Nat) b, cs.data.toList[j]? = some b → b.toNat < 128) :
    Calls Tryz.prog 223 #[.string s, .string cs] w fun e w' => e = .returned (.string ⟨(s.data.toList.takeWhile p).toArray⟩) ∧ Below w.heap.size w w' := by
  have HT := Lib.hid (show Lib.trimLeftS s.data.toList cs.data.toList = s.data.toList.dropWhile p by
    unfold Lib.trimLeftS
    congr 1
    funext b
    exact hp b)
  have hl : (s.data.toList.dropWhile p).length ≤ s.size := (List.dropWhile_sublist _).length_le
  have HE := Lib.hid (take_while p s.data.toList)
  clear hp
  have hTL := Tryz.strings_TrimLeft s cs w hcs hascii
  rw [HT.out] at hTL
  generalize hd : s.data.toList.dropWhile p = d at *
  go_enter Tryz.func223, Tryz.ntmps223
  go_wp2_with fail
  refine hTL.mono ?_
  rintro e w1 ⟨rfl, b1⟩
  have hsz : (⟨d.toArray⟩ : ByteArray).size = d.length := rfl
  have hsb : ((s.size : Int) - (d.length : Int)).toNat = s.size - d.length := by omega
  go_wp2_with fail
  refine (lclone_any _ _ (by simp; omega)).mono ?_
  rintro e w2 ⟨rfl, b2⟩
  go_wp2_with fail
  go_ret
  have HX := eq_ofL (show (s.extract 0 (s.size - d.length)).data.toList = s.data.toList.takeWhile p by rw [lext_front]; exact HE.out)
  exact ⟨ret_str HX, b1.trans (b2.mono b1.size)⟩

theorem ascii_nm : ∀ (j : Nat) b, (lettersS.data.toList ++ digitsS.data.toList)[j]? = some b → b.toNat < 128 := ascii_of_all (by decide)
theorem ascii_nb : ∀ (j : Nat) b, (lettersS.data.toList ++ digitsS.data.toList ++ [46, 43, 45])[j]? = some b → b.toNat < 128 := ascii_of_all (by decide)

/-- The cells of the result that a function laid at its start, behind a call. -/
theorem tok_cells {w w1 : World} (b1 : Below (w.alloc (.cells #[.int .i64 0, .string ⟨#[]⟩, .int .i64 0] 197)).heap.size (w.alloc (.cells #[.int .i64 0, .string ⟨#[]⟩, .int .i64 0] 197)) w1) :
    w1.cell? ⟨w.heap.size, 0, none⟩ = some (.int .i64 0) ∧ w1.cell? ⟨w.heap.size, 1, none⟩ = some (.string ⟨#[]⟩) ∧ w1.cell? ⟨w.heap.size, 2, none⟩ = some (.int .i64 0) ∧ (∀ j, w1.frozen? ⟨w.heap.size, j, none⟩ = false) ∧ w.heap.size < w1.heap.size ∧ Below w.heap.size w w1 := by
  have hz := b1.size
  simp only [World.size_alloc] at hz
  have hbx : w1.heap[w.heap.size]? = some (.cells #[.int .i64 0, .string ⟨#[]⟩, .int .i64 0] 197 (0, 0)) := by
    refine (b1.block _ (by simp)).trans ?_
    have := heap_alloc_new w (.cells #[.int .i64 0, .string ⟨#[]⟩, .int .i64 0] 197)
    simpa using this
  exact ⟨Lib.cell_of_heap hbx 0, Lib.cell_of_heap hbx 1, Lib.cell_of_heap hbx 2, fun j => Lib.frozen_of_heap hbx j, by omega, ((Below.refl _ w).alloc (Nat.le_refl _) _).trans (b1.mono (by simp))⟩

theorem below_three {w w1 : World} (h : Below w.heap.size w w1) (x y z : Value) : Below w.heap.size w (((w1.setCell ⟨w.heap.size, 0, none⟩ x).setCell ⟨w.heap.size, 1, none⟩ y).setCell ⟨w.heap.size, 2, none⟩ z) :=
  ((h.setCell (p := ⟨w.heap.size, 0, none⟩) (Nat.le_refl _) x).setCell (p := ⟨w.heap.size, 1, none⟩) (Nat.le_refl _) y).setCell (p := ⟨w.heap.size, 2, none⟩) (Nat.le_refl _) z

set_option maxHeartbeats 1000000 in
set_option maxRecDepth 100000 in
theorem lxName_any (s : ByteArray) (w : World) (hs : s.size ≤ 1000000000) : Calls Tryz.prog 176 #[.string s] w (TokIs w (lxName s.data.toList)) := by
  have HN := Lib.hid (show lxName s.data.toList = if nameB (s.data.toList.takeWhile nmU) then some (1, s.data.toList.takeWhile nmU, (s.data.toList.takeWhile nmU).length) else none from rfl)
  have hle := takeWhile_le nmU s.data.toList
  have hl0 : s.data.toList.length = s.size := rfl
  have hL := fun W => longest_any s ⟨(lettersS.data.toList ++ digitsS.data.toList).toArray⟩ nmU W hs (by decide) nm_has ascii_nm
  generalize s.data.toList.takeWhile nmU = t at *
  have hM := fun W => name_any (⟨t.toArray⟩ : ByteArray) W (by unfold maxLen; show t.length ≤ _; omega)
  rw [toArray_list] at hM
  have htz : (⟨t.toArray⟩ : ByteArray).size = t.length := rfl
  cases hn : nameB t with
  | true =>
    rw [hn] at hM
    have HY := Lib.hid (show lxName s.data.toList = some (1, t, t.length) by rw [HN.out, hn]; rfl)
    clear hn
    go_enter Tryz.func176, Tryz.ntmps176
    go_wp2_with fail
    refine (hL _).mono ?_
    rintro e w1 ⟨rfl, b1⟩
    go_wp2_with fail
    refine (hM _).mono ?_
    rintro e w2 ⟨rfl, b2⟩
    obtain ⟨q0, q1, q2, qf, hlt, hb⟩ := tok_cells (b1.trans (b2.mono b1.size))
    have q0f := qf 0
    have q1f := qf 1
    have q2f := qf 2
    clear qf b1 b2
    go_wp2_with fail
    exact bodyPost_ret (v := .tuple #[.agg #[.int .i64 (1 : Nat), .string ⟨t.toArray⟩, .int .i64 0], .int .i64 t.length]) (by simp [results, Tryz.results176, go_sem, q0, q1, q2]) rfl (tok_yes HY.out (below_three hb _ _ _))
  | false =>
    rw [hn] at hM
    have HY := Lib.hid (show lxName s.data.toList = none by rw [HN.out, hn]; rfl)
    clear hn
    go_enter Tryz.func176, Tryz.ntmps176
    go_wp2_with fail
    refine (hL _).mono ?_
    rintro e w1 ⟨rfl, b1⟩
    go_wp2_with fail
    refine (hM _).mono ?_
    rintro e w2 ⟨rfl, b2⟩
    obtain ⟨q0, q1, q2, qf, hlt, hb⟩ := tok_cells (b1.trans (b2.mono b1.size))
    have q0f := qf 0
    have q1f := qf 1
    have q2f := qf 2
    clear qf b1 b2
    go_wp2_with fail
    exact bodyPost_ret (v := .tuple #[.agg #[.int .i64 0, .string ⟨#[]⟩, .int .i64 0], .int .i64 0]) (by simp [results, Tryz.results176, go_sem, q0, q1, q2]) rfl (tok_no HY.out (below_three hb _ _ _))

end Go.Proofs.YtkahnlgedacppaaGreatDoor
/-
  What refectorylaw00.Place answers.
-/
namespace Go.Proofs.YtkahnlgedacppaaGreatDoor
open Go.RowKit

theorem tmod_fix (v n : Int) (hn : 0 < n) : -n < v.tmod n ∧ v.tmod n < n ∧ v % n = if v.tmod n < 0 then v.tmod n + n else v.tmod n := by
  have h1 := Int.emod_nonneg v (by omega : n ≠ 0)
  have h2 := Int.emod_lt_of_pos v hn
  have h3 := @Int.tmod_eq_emod v n
  by_cases h : 0 ≤ v ∨ n ∣ v
  · rw [if_pos h] at h3
    refine ⟨by omega, by omega, ?_⟩
    rw [if_neg (by omega)]
    omega
  · rw [if_neg h] at h3
    by_cases hz : v % n = 0
    · exact absurd (.inr (Int.dvd_of_emod_eq_zero hz)) h
    · refine ⟨by omega, by omega, ?_⟩
      rw [if_pos (by omega)]
      omega

theorem ret_i64 {a b : Int} (h : a = b) : Ending.returned (.int .i64 a) = .returned (.int .i64 b) := by rw [h]

set_option maxHeartbeats 1000000 in
theorem place_any (v n : Int) (w : World) (hn : 0 < n) (hm : n ≤ 1099511627776) :
    Calls Tryz.prog 19 #[.int .i64 v, .int .i64 n] w fun e w' => e = .returned (.int .i64 (v % n)) ∧ w = w' := by
  obtain ⟨t1, t2, t3⟩ := tmod_fix v n hn
  have HT := Lib.hid t3
  clear t3
  go_enter Tryz.func19, Tryz.ntmps19
  go_wp2
  · go_ret
    exact ⟨ret_i64 (by rw [HT.out, if_pos ‹_›]), rfl⟩
  · go_ret
    exact ⟨ret_i64 (by rw [HT.out, if_neg (by omega)]), rfl⟩

def TrueBelow (w : World) (e : Ending) (w' : World) : Prop := e = .returned (.bool true) ∧ Below w.heap.size w w'

end Go.Proofs.YtkahnlgedacppaaGreatDoor
/-
  What lex's functions answer of numbers, signs, texts in quotes.
-/
namespace Go.Proofs.YtkahnlgedacppaaGreatDoor
open Go.RowKit

set_option maxHeartbeats 2000000 in
set_option maxRecDepth 100000 in
theorem lxNum_any (s : ByteArray) (w : World) (hs : s.size ≤ 1000000000) : Calls Tryz.prog 177 #[.string s] w (TokIs w (lxNum s.data.toList)) := by
  have HN := Lib.hid (show lxNum s.data.toList = if numOk (s.data.toList.takeWhile nbU) then some (if numWhole (s.data.toList.takeWhile nbU) then 2 else 3, s.data.toList.takeWhile nbU, (s.data.toList.takeWhile nbU).length) else none from rfl)
  have hle := takeWhile_le nbU s.data.toList
  have hl0 : s.data.toList.length = s.size := rfl
  have hL := fun W => longest_any s ⟨(lettersS.data.toList ++ digitsS.data.toList ++ [46, 43, 45]).toArray⟩ nbU W hs (by decide) nb_has ascii_nb
  generalize s.data.toList.takeWhile nbU = t at *
  have hM := fun W => number_any (⟨t.toArray⟩ : ByteArray) W
  rw [toArray_list] at hM
  unfold NumIs at hM
  have htz : (⟨t.toArray⟩ : ByteArray).size = t.length := rfl
  cases hn : numOk t with
  | true =>
    cases hw : numWhole t with
    | true =>
      rw [hn, hw] at hM
      have HY := Lib.hid (show lxNum s.data.toList = some (2, t, t.length) by rw [HN.out, hn, hw]; rfl)
      clear hn hw
      go_enter Tryz.func177, Tryz.ntmps177
      go_wp2_with fail
      refine (hL _).mono ?_
      rintro e w1 ⟨rfl, b1⟩
      go_wp2_with fail
      refine (hM _).mono ?_
      rintro e w2 ⟨rfl, b2⟩
      obtain ⟨q0, q1, q2, qf, hlt, hb⟩ := tok_cells (b1.trans (b2.mono b1.size))
      have q0f := qf 0
      have q1f := qf 1
      have q2f := qf 2
      clear qf b1 b2
      go_wp2_with fail
      exact bodyPost_ret (v := .tuple #[.agg #[.int .i64 (2 : Nat), .string ⟨t.toArray⟩, .int .i64 0], .int .i64 t.length]) (by simp [results, Tryz.results177, go_sem, q0, q1, q2]) rfl (tok_yes HY.out (below_three hb _ _ _))
    | false =>
      rw [hn, hw] at hM
      have HY := Lib.hid (show lxNum s.data.toList = some (3, t, t.length) by rw [HN.out, hn, hw]; rfl)
      clear hn hw
      go_enter Tryz.func177, Tryz.ntmps177
      go_wp2_with fail
      refine (hL _).mono ?_
      rintro e w1 ⟨rfl, b1⟩
      go_wp2_with fail
      refine (hM _).mono ?_
      rintro e w2 ⟨rfl, b2⟩
      obtain ⟨q0, q1, q2, qf, hlt, hb⟩ := tok_cells (b1.trans (b2.mono b1.size))
      have q0f := qf 0
      have q1f := qf 1
      have q2f := qf 2
      clear qf b1 b2
      go_wp2_with fail
      exact bodyPost_ret (v := .tuple #[.agg #[.int .i64 (3 : Nat), .string ⟨t.toArray⟩, .int .i64 0], .int .i64 t.length]) (by simp [results, Tryz.results177, go_sem, q0, q1, q2]) rfl (tok_yes HY.out (below_three hb _ _ _))
  | false =>
    have hw : numWhole t = false := by unfold numWhole; rw [hn]; rfl
    rw [hn, hw] at hM
    have HY := Lib.hid (show lxNum s.data.toList = none by rw [HN.out, hn]; rfl)
    clear hn hw
    go_enter Tryz.func177, Tryz.ntmps177
    go_wp2_with fail
    refine (hL _).mono ?_
    rintro e w1 ⟨rfl, b1⟩
    go_wp2_with fail
    refine (hM _).mono ?_
    rintro e w2 ⟨rfl, b2⟩
    obtain ⟨q0, q1, q2, qf, hlt, hb⟩ := tok_cells (b1.trans (b2.mono b1.size))
    have q0f := qf 0
    have q1f := qf 1
    have q2f := qf 2
    clear qf b1 b2
    go_wp2_with fail
    exact bodyPost_ret (v := .tuple #[.agg #[.int .i64 0, .string ⟨#[]⟩, .int .i64 0], .int .i64 0]) (by simp [results, Tryz.results177, go_sem, q0, q1, q2]) rfl (tok_no HY.out (below_three hb _ _ _))

/-! ### signs -/
theorem head_list (s : ByteArray) (h : 0 < s.size) : s.data.toList = s[0] :: s.data.toList.drop 1 := by
  have e := drop_cons s 0 h
  rwa [List.drop_zero] at e

set_option maxHeartbeats 1000000 in
set_option maxRecDepth 100000 in
theorem lxSign_any (s : ByteArray) (w : World) (h0 : 0 < s.size) (hs : s.size ≤ 1000000000) : Calls Tryz.prog 181 #[.string s] w (TokIs w (lxSign s.data.toList)) := by
  have hP := fun W => turnW (Tryz.strings_HasPrefix s ⟨lxDots.toArray⟩ W)
  rw [toArray_list] at hP
  have HN := Lib.hid (show lxSign s.data.toList = if Lib.hasPrefix s.data.toList lxDots then some (5, lxDots, 3) else if signsS.data.toList.contains s[0] then some (5, [s[0]], 1) else none by
    unfold lxSign
    conv => lhs; arg 3; rw [head_list s h0])
  cases hp : Lib.hasPrefix s.data.toList lxDots with
  | true =>
    rw [hp] at hP
    have HY := Lib.hid (show lxSign s.data.toList = some (5, lxDots, 3) by rw [HN.out, hp]; rfl)
    clear hp
    go_enter Tryz.func181, Tryz.ntmps181
    go_wp2_with fail
    refine (hP _).mono ?_
    rintro e w2 ⟨rfl, rfl⟩
    go_wp2_with fail
    exact bodyPost_ret (v := .tuple #[.agg #[.int .i64 (5 : Nat), .string ⟨lxDots.toArray⟩, .int .i64 0], .int .i64 (3 : Nat)]) (by simp [results, Tryz.results181, go_sem]; rfl) rfl (tok_yes HY.out ((Below.refl _ _).alloc (Nat.le_refl _) _))
  | false =>
    rw [hp] at hP
    have hO := fun W => isOneOf_any s[0] signsS W
    cases ho : signsS.data.toList.contains s[0] with
    | true =>
      rw [ho] at hO
      have HY := Lib.hid (show lxSign s.data.toList = some (5, [s[0]], 1) by rw [HN.out, hp, ho]; rfl)
      have HX := Lib.hid <| eq_ofL (show (s.extract 0 1).data.toList = [s[0]] by rw [lext_front, head_list s h0]; rfl)
      clear hp ho
      go_enter Tryz.func181, Tryz.ntmps181
      go_wp2_with fail
      refine (hP _).mono ?_
      rintro e w2 ⟨rfl, rfl⟩
      go_wp2_with fail
      refine (hO _).mono ?_
      rintro e w3 ⟨rfl, rfl⟩
      go_wp2_with fail
      refine (lclone_any (s.extract 0 1) _ (by simp; omega)).mono ?_
      rintro e w4 ⟨rfl, b4⟩
      obtain ⟨q0, q1, q2, qf, hlt, hb⟩ := tok_cells b4
      have q0f := qf 0
      have q1f := qf 1
      have q2f := qf 2
      clear qf b4
      go_wp2_with fail
      exact bodyPost_ret (v := .tuple #[.agg #[.int .i64 (5 : Nat), .string ⟨[s[0]].toArray⟩, .int .i64 0], .int .i64 (1 : Nat)]) (by rw [← HX.out]; simp [results, Tryz.results181, go_sem, q0, q1, q2]) rfl (tok_yes HY.out (below_three hb _ _ _))
    | false =>
      rw [ho] at hO
      have HY := Lib.hid (show lxSign s.data.toList = none by rw [HN.out, hp, ho]; rfl)
      clear hp ho
      go_enter Tryz.func181, Tryz.ntmps181
      go_wp2_with fail
      refine (hP _).mono ?_
      rintro e w2 ⟨rfl, rfl⟩
      go_wp2_with fail
      refine (hO _).mono ?_
      rintro e w3 ⟨rfl, rfl⟩
      go_wp2_with fail
      exact bodyPost_ret (v := .tuple #[.agg #[.int .i64 0, .string ⟨#[]⟩, .int .i64 0], .int .i64 0]) (by simp [results, Tryz.results181, go_sem]) rfl (tok_no HY.out ((Below.refl _ _).alloc (Nat.le_refl _) _))

/-! ### texts in quotes -/
theorem lxQs_cons (i : Nat) (b : UInt8) (r : List UInt8) : lxQs i (b :: r) = if b = 34 then i + 1 else if b = 92 then lxQs (i + 2) (r.drop 1) else if lxEnd b then 0 else lxQs (i + 1) r := by
  cases r with
  | nil =>
    unfold lxQs
    by_cases h : b = 34
    · rw [if_pos h, if_pos h]
    · rw [if_neg h, if_neg h]
      simp
  | cons c r => rfl
theorem lxQs_at (s : ByteArray) (i : Nat) (h : i < s.size) : lxQs i (s.data.toList.drop i) = if s[i] = 34 then i + 1 else if s[i] = 92 then lxQs (i + 2) (s.data.toList.drop (i + 2)) else if lxEnd s[i] then 0 else lxQs (i + 1) (s.data.toList.drop (i + 1)) := by
  rw [drop_cons s i h, lxQs_cons, List.drop_drop]
theorem lxQs_end (s : ByteArray) (i : Nat) (h : ¬ i < s.size) : lxQs i (s.data.toList.drop i) = 0 := by rw [drop_end s i h]; rfl
theorem u8_is {b : UInt8} {n : Nat} (h : n < 256) (hb : (b.toNat : Int) = n) : b = UInt8.ofNat n := UInt8.toNat_inj.1 (by rw [UInt8.toNat_ofNat_of_lt' (by simpa using h)]; omega)
set_option maxHeartbeats 1000000 in
set_option maxRecDepth 100000 in
theorem quotedSize_any (s : ByteArray) (w : World) (hs : s.size ≤ 1000000000) : Calls Tryz.prog 229 #[.string s] w fun e w' => e = .returned (.int .i64 (lxQn s.data.toList)) ∧ w = w' := by
  go_enter Tryz.func229, Tryz.ntmps229
  go_wp2_with fail
  go_loop [3] (fun v => ∃ i : Nat, v = .int .i64 i ∧ 1 ≤ i ∧ i ≤ s.size + 1 + 1 ∧ Hid (lxQn s.data.toList = lxQs i (s.data.toList.drop i))) (fun v => s.size + 2 - (intOf v).toNat)
  case atStart => exact ⟨1, by go_num, Nat.le_refl _, by omega, Lib.hid rfl⟩
  case round =>
    obtain ⟨i, rfl, hi1, hi2, HE⟩ := hrel
    by_cases hlt : i < s.size
    · have hd1 : decide ((i : Int) < s.size) = true := decide_eq_true (by omega)
      have hat := lxQs_at s i hlt
      by_cases h34 : (s[i].toNat : Int) = 34
      · have h34' : s[i] = 34 := u8_is (n := 34) (by decide) h34
        rw [if_pos h34'] at hat
        have HF := Lib.hid (show lxQn s.data.toList = i + 1 by rw [HE.out, hat])
        have hn : ((s[i].toNat : Int) == 34) = true := by simpa using h34
        clear hat h34 h34'
        go_wp2_with fail
        go_ret
        exact ⟨ret_i64 (by rw [HF.out]; omega), rfl⟩
      · have h34' : s[i] ≠ 34 := fun e => h34 (by rw [e]; rfl)
        have hn : ((s[i].toNat : Int) == 34) = false := by simpa using h34
        rw [if_neg h34'] at hat
        clear h34 h34'
        by_cases h92 : (s[i].toNat : Int) = 92
        · have h92' : s[i] = 92 := u8_is (n := 92) (by decide) h92
          rw [if_pos h92'] at hat
          have HF := Lib.hid (show lxQn s.data.toList = lxQs (i + 2) (s.data.toList.drop (i + 2)) by rw [HE.out, hat])
          have hn2 : ((s[i].toNat : Int) == 92) = true := by simpa using h92
          clear hat h92 h92'
          go_wp2_with fail
          go_round
          case rel => exact ⟨i + 2, by go_num, by omega, by omega, HF⟩
          case measure => simp [intOf]; omega
        · have h92' : s[i] ≠ 92 := fun e => h92 (by rw [e]; rfl)
          have hn2 : ((s[i].toNat : Int) == 92) = false := by simpa using h92
          rw [if_neg h92'] at hat
          clear h92 h92'
          by_cases h10 : (s[i].toNat : Int) = 10
          · have h10' : s[i] = 10 := u8_is (n := 10) (by decide) h10
            rw [if_pos (by rw [h10']; rfl)] at hat
            have HF := Lib.hid (show lxQn s.data.toList = 0 by rw [HE.out, hat])
            have hn3 : ((s[i].toNat : Int) == 10) = true := by simpa using h10
            clear hat h10 h10'
            go_wp2_with fail
            go_ret
            exact ⟨ret_i64 (by rw [HF.out]; rfl), rfl⟩
          · have h10' : s[i] ≠ 10 := fun e => h10 (by rw [e]; rfl)
            have hn3 : ((s[i].toNat : Int) == 10) = false := by simpa using h10
            by_cases h13 : (s[i].toNat : Int) = 13
            · have h13' : s[i] = 13 := u8_is (n := 13) (by decide) h13
              rw [if_pos (by rw [h13']; rfl)] at hat
              have HF := Lib.hid (show lxQn s.data.toList = 0 by rw [HE.out, hat])
              have hn4 : ((s[i].toNat : Int) == 13) = true := by simpa using h13
              clear hat h10 h10' h13 h13'
              go_wp2_with fail
              go_ret
              exact ⟨ret_i64 (by rw [HF.out]; rfl), rfl⟩
            · have h13' : s[i] ≠ 13 := fun e => h13 (by rw [e]; rfl)
              have hn4 : ((s[i].toNat : Int) == 13) = false := by simpa using h13
              rw [if_neg (by simp [lxEnd, h10', h13'])] at hat
              have HF := Lib.hid (show lxQn s.data.toList = lxQs (i + 1) (s.data.toList.drop (i + 1)) by rw [HE.out, hat])
              clear hat h10 h10' h13 h13'
              go_wp2_with fail
              go_round
              case rel => exact ⟨i + 1, by go_num, by omega, by omega, HF⟩
              case measure => simp [intOf]; omega
    · have hd1 : decide ((i : Int) < s.size) = false := decide_eq_false (by omega)
      have HF := Lib.hid (show lxQn s.data.toList = 0 by rw [HE.out, lxQs_end s i hlt])
      go_wp2_with fail
      go_ret
      exact ⟨ret_i64 (by rw [HF.out]; rfl), rfl⟩

set_option maxHeartbeats 1000000 in
set_option maxRecDepth 100000 in
theorem lxQuoted_any (s : ByteArray) (w : World) (h0 : 0 < s.size) (hs : s.size ≤ 1000000000) : Calls Tryz.prog 180 #[.string s] w (TokIs w (lxQuoted s.data.toList)) := by
  have hQ := fun W => quotedSize_any s W hs
  have hle : lxQn s.data.toList ≤ _ := (lxQs_le (s.data.toList.drop 1).length (s.data.toList.drop 1) 1 (Nat.le_refl _)).1
  rw [len_drop] at hle
  have HN := Lib.hid (show lxQuoted s.data.toList = match unqP (s.data.toList.take (lxQn s.data.toList)) with
    | none => none
    | some t => some (4, t, lxQn s.data.toList) from rfl)
  generalize lxQn s.data.toList = n at *
  have hU := fun W => unquote_any (s.extract 0 n) W (by simp; omega)
  rw [lext_front] at hU
  have hn : n ≤ s.size := by omega
  clear hle
  cases hu : unqP (s.data.toList.take n) with
  | none =>
    rw [hu] at hU
    have HY := Lib.hid (show lxQuoted s.data.toList = none by rw [HN.out, hu])
    clear hu
    go_enter Tryz.func180, Tryz.ntmps180
    go_wp2_with fail
    refine (hQ _).mono ?_
    rintro e w1 ⟨rfl, rfl⟩
    go_wp2_with fail
    refine (hU _).mono ?_
    rintro e w2 ⟨b2, rfl⟩
    obtain ⟨q0, q1, q2, qf, hlt, hb⟩ := tok_cells b2
    have q0f := qf 0
    have q1f := qf 1
    have q2f := qf 2
    clear qf b2
    go_wp2_with fail
    exact bodyPost_ret (v := .tuple #[.agg #[.int .i64 0, .string ⟨#[]⟩, .int .i64 0], .int .i64 0]) (by simp [results, Tryz.results180, go_sem, q0, q1, q2]) rfl (tok_no HY.out (below_three hb _ _ _))
  | some t =>
    rw [hu] at hU
    have HY := Lib.hid (show lxQuoted s.data.toList = some (4, t, n) by rw [HN.out, hu])
    clear hu
    go_enter Tryz.func180, Tryz.ntmps180
    go_wp2_with fail
    refine (hQ _).mono ?_
    rintro e w1 ⟨rfl, rfl⟩
    go_wp2_with fail
    refine (hU _).mono ?_
    rintro e w2 ⟨b2, rfl⟩
    obtain ⟨q0, q1, q2, qf, hlt, hb⟩ := tok_cells b2
    have q0f := qf 0
    have q1f := qf 1
    have q2f := qf 2
    clear qf b2
    go_wp2_with fail
    exact bodyPost_ret (v := .tuple #[.agg #[.int .i64 (4 : Nat), .string ⟨t.toArray⟩, .int .i64 0], .int .i64 n]) (by simp [results, Tryz.results180, go_sem, q0, q1, q2]) rfl (tok_yes HY.out (below_three hb _ _ _))

end Go.Proofs.YtkahnlgedacppaaGreatDoor
