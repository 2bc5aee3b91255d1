/-
  What lex's functions answer of names, numbers, signs.
-/
import Derived.Test.YtibkncgfdhflgaaGreatDoorLx1
import Derived.WalkSpells
namespace Go.Proofs.YtibkncgfdhflgaaGreatDoor
open Go.RowKit

/-- What a function that reads a word answers. -/
def tokV : Wd → Value
  | none => .tuple #[.agg #[.int .i64 0, .string ⟨#[]⟩, .int .i64 0], .int .i64 0]
  | some (k, s, n) => .tuple #[.agg #[.int .i64 k, .string ⟨s.toArray⟩, .int .i64 0], .int .i64 n]
def TokIs (w : World) (o : Wd) (e : Ending) (w' : World) : Prop := e = .returned (tokV o) ∧ Below w.heap.size w w'
theorem tok_no {w w' : World} {o : Wd} (h : o = none) (hb : Below w.heap.size w w') : TokIs w o (.returned (.tuple #[.agg #[.int .i64 0, .string ⟨#[]⟩, .int .i64 0], .int .i64 0])) w' := by subst h; exact ⟨rfl, hb⟩
theorem tok_yes {w w' : World} {o : Wd} {k : Nat} {s : List UInt8} {n : Nat} (h : o = some (k, s, n)) (hb : Below w.heap.size w w') : TokIs w o (.returned (.tuple #[.agg #[.int .i64 k, .string ⟨s.toArray⟩, .int .i64 0], .int .i64 n])) w' := by subst h; exact ⟨rfl, hb⟩

theorem ret_str {a b : ByteArray} (h : a = b) : Ending.returned (.string a) = .returned (.string b) := by rw [h]
theorem lext_list (s : ByteArray) (a b : Nat) : (s.extract a b).data.toList = (s.data.toList.drop a).take (b - a) := by
  rw [ByteArray.data_extract, Array.toList_extract]
theorem lext_all (s : ByteArray) (a : Nat) : (s.extract a s.size).data.toList = s.data.toList.drop a := by
  rw [lext_list, List.take_of_length_le]
  rw [len_drop]
  exact Nat.le_refl _
theorem lext_front (s : ByteArray) (b : Nat) : (s.extract 0 b).data.toList = s.data.toList.take b := by
  rw [lext_list]; rfl
theorem eq_ofL {s : ByteArray} {l : List UInt8} (h : s.data.toList = l) : s = ⟨l.toArray⟩ := by subst h; cases s; simp
theorem lclone_any (s : ByteArray) (w : World) (h : s.size ≤ 281474976710656) : Calls Tryz.prog 84 #[.string s] w fun e w' => e = .returned (.string s) ∧ Below w.heap.size w w' := by
  go_enter Tryz.func84, Tryz.ntmps84
  go_wp2_with fail
  refine (Tryz.stringslite_Clone s _ h).mono ?_
  rintro e w1 ⟨rfl, hb⟩
  go_wp2_with fail
  go_ret
  exact ⟨rfl, hb⟩

set_option maxHeartbeats 400000 in
theorem lxIsBlank_any (b : UInt8) (w : World) : Calls Tryz.prog 40 #[.int .u8 b.toNat] w fun e w' => e = .returned (.bool (lxBlank b)) ∧ w = w' := by
  have e1 : ((b.toNat : Int) == 32) = (b == 32) := by rw [Bool.eq_iff_iff]; simp [← UInt8.toNat_inj]; omega
  have e2 : ((b.toNat : Int) == 9) = (b == 9) := by rw [Bool.eq_iff_iff]; simp [← UInt8.toNat_inj]; omega
  have e3 : ((b.toNat : Int) == 10) = (b == 10) := by rw [Bool.eq_iff_iff]; simp [← UInt8.toNat_inj]; omega
  have e4 : ((b.toNat : Int) == 13) = (b == 13) := by rw [Bool.eq_iff_iff]; simp [← UInt8.toNat_inj]; omega
  have e5 : ((b.toNat : Int) == 44) = (b == 44) := by rw [Bool.eq_iff_iff]; simp [← UInt8.toNat_inj]; omega
  have HB := Lib.hid (show lxBlank b = (b == 32 || b == 9 || b == 10 || b == 13 || b == 44) from rfl)
  cases h1 : (b == 32) <;> cases h2 : (b == 9) <;> cases h3 : (b == 10) <;> cases h4 : (b == 13) <;> cases h5 : (b == 44) <;> rw [h1] at e1 <;> rw [h2] at e2 <;> rw [h3] at e3 <;> rw [h4] at e4 <;> rw [h5] at e5 <;>
  ((have HR := Lib.hid HB.out) ; rw [h1, h2, h3, h4, h5] at HR; clear HB h1 h2 h3 h4 h5; (go_enter Tryz.func40, Tryz.ntmps40); go_wp2; go_ret; exact ⟨ret_bool (by rw [HR.out]; rfl), rfl⟩)

theorem isOneOf_any (b : UInt8) (cs : ByteArray) (w : World) : Calls Tryz.prog 56 #[.int .u8 b.toNat, .string cs] w fun e w' => e = .returned (.bool (cs.data.toList.contains b)) ∧ w = w' := by
  have HU := Lib.hid (u8_back b)
  have HI := Lib.hid (idx_ge cs.data.toList b)
  go_enter Tryz.func56, Tryz.ntmps56
  go_wp2_with fail
  refine (turnW (Tryz.strings_IndexByte _ _ _)).mono ?_
  rintro e w1 ⟨rfl, rfl⟩
  rw [HU.out]
  go_wp2_with fail
  go_ret
  exact ⟨ret_bool (by rw [← HI.out]), rfl⟩

set_option maxHeartbeats 400000 in
theorem longest_any (s cs : ByteArray) (p : UInt8 → Bool) (w : World) (hs : s.size ≤ 1000000000) (hcs : cs.size < 4294967281) (hp : ∀ b, cs.data.toList.contains b = p b) (hascii : ∀ (j : Nat) b, cs.data.toList[j]? = some b → b.toNat < 128) :
    Calls Tryz.prog 76 #[.string s, .string cs] w fun e w' => e = .returned (.string ⟨(s.data.toList.takeWhile p).toArray⟩) ∧ Below w.heap.size w w' := by
  have HT := Lib.hid (show Lib.trimLeftS s.data.toList cs.data.toList = s.data.toList.dropWhile p by
    unfold Lib.trimLeftS
    congr 1
    funext b
    exact hp b)
  have hl : (s.data.toList.dropWhile p).length ≤ s.size := (List.dropWhile_sublist _).length_le
  have HE := Lib.hid (take_while p s.data.toList)
  clear hp
  have hTL := Tryz.strings_TrimLeft s cs w hcs hascii
  rw [HT.out] at hTL
  generalize hd : s.data.toList.dropWhile p = d at *
  go_enter Tryz.func76, Tryz.ntmps76
  go_wp2_with fail
  refine hTL.mono ?_
  rintro e w1 ⟨rfl, b1⟩
  have hsz : (⟨d.toArray⟩ : ByteArray).size = d.length := rfl
  have hsb : ((s.size : Int) - (d.length : Int)).toNat = s.size - d.length := by omega
  go_wp2_with fail
  refine (lclone_any _ _ (by simp; omega)).mono ?_
  rintro e w2 ⟨rfl, b2⟩
  go_wp2_with fail
  go_ret
  have HX := eq_ofL (show (s.extract 0 (s.size - d.length)).data.toList = s.data.toList.takeWhile p by rw [lext_front]; exact HE.out)
  exact ⟨ret_str HX, b1.trans (b2.mono b1.size)⟩

theorem ascii_nm : ∀ (j : Nat) b, (lettersS.data.toList ++ digitsS.data.toList)[j]? = some b → b.toNat < 128 := ascii_of_all (by decide)
theorem ascii_nb : ∀ (j : Nat) b, (lettersS.data.toList ++ digitsS.data.toList ++ [46, 43, 45])[j]? = some b → b.toNat < 128 := ascii_of_all (by decide)

/-- The cells of the result that a function laid at its start, behind a call. -/
theorem tok_cells {w w1 : World} (b1 : Below (w.alloc (.cells #[.int .i64 0, .string ⟨#[]⟩, .int .i64 0] 83)).heap.size (w.alloc (.cells #[.int .i64 0, .string ⟨#[]⟩, .int .i64 0] 83)) w1) :
    w1.cell? ⟨w.heap.size, 0, none⟩ = some (.int .i64 0) ∧ w1.cell? ⟨w.heap.size, 1, none⟩ = some (.string ⟨#[]⟩) ∧ w1.cell? ⟨w.heap.size, 2, none⟩ = some (.int .i64 0) ∧ (∀ j, w1.frozen? ⟨w.heap.size, j, none⟩ = false) ∧ w.heap.size < w1.heap.size ∧ Below w.heap.size w w1 := by
  have hz := b1.size
  simp only [World.size_alloc] at hz
  have hbx : w1.heap[w.heap.size]? = some (.cells #[.int .i64 0, .string ⟨#[]⟩, .int .i64 0] 83 (0, 0)) := by
    refine (b1.block _ (by simp)).trans ?_
    have := heap_alloc_new w (.cells #[.int .i64 0, .string ⟨#[]⟩, .int .i64 0] 83)
    simpa using this
  exact ⟨Lib.cell_of_heap hbx 0, Lib.cell_of_heap hbx 1, Lib.cell_of_heap hbx 2, fun j => Lib.frozen_of_heap hbx j, by omega, ((Below.refl _ w).alloc (Nat.le_refl _) _).trans (b1.mono (by simp))⟩

theorem below_three {w w1 : World} (h : Below w.heap.size w w1) (x y z : Value) : Below w.heap.size w (((w1.setCell ⟨w.heap.size, 0, none⟩ x).setCell ⟨w.heap.size, 1, none⟩ y).setCell ⟨w.heap.size, 2, none⟩ z) :=
  ((h.setCell (p := ⟨w.heap.size, 0, none⟩) (Nat.le_refl _) x).setCell (p := ⟨w.heap.size, 1, none⟩) (Nat.le_refl _) y).setCell (p := ⟨w.heap.size, 2, none⟩) (Nat.le_refl _) z

set_option maxHeartbeats 1000000 in
set_option maxRecDepth 100000 in
theorem lxName_any (s : ByteArray) (w : World) (hs : s.size ≤ 1000000000) : Calls Tryz.prog 57 #[.string s] w (TokIs w (lxName s.data.toList)) := by
  have HN := Lib.hid (show lxName s.data.toList = if nameB (s.data.toList.takeWhile nmU) then some (1, s.data.toList.takeWhile nmU, (s.data.toList.takeWhile nmU).length) else none from rfl)
  have hle := takeWhile_le nmU s.data.toList
  have hl0 : s.data.toList.length = s.size := rfl
  have hL := fun W => longest_any s ⟨(lettersS.data.toList ++ digitsS.data.toList).toArray⟩ nmU W hs (by decide) nm_has ascii_nm
  generalize s.data.toList.takeWhile nmU = t at *
  have hM := fun W => name_any (⟨t.toArray⟩ : ByteArray) W (by unfold maxLen; show t.length ≤ _; omega)
  rw [toArray_list] at hM
  have htz : (⟨t.toArray⟩ : ByteArray).size = t.length := rfl
  cases hn : nameB t with
  | true =>
    rw [hn] at hM
    have HY := Lib.hid (show lxName s.data.toList = some (1, t, t.length) by rw [HN.out, hn]; rfl)
    clear hn
    go_enter Tryz.func57, Tryz.ntmps57
    go_wp2_with fail
    refine (hL _).mono ?_
    rintro e w1 ⟨rfl, b1⟩
    go_wp2_with fail
    refine (hM _).mono ?_
    rintro e w2 ⟨rfl, b2⟩
    obtain ⟨q0, q1, q2, qf, hlt, hb⟩ := tok_cells (b1.trans (b2.mono b1.size))
    have q0f := qf 0
    have q1f := qf 1
    have q2f := qf 2
    clear qf b1 b2
    go_wp2_with fail
    exact bodyPost_ret (v := .tuple #[.agg #[.int .i64 (1 : Nat), .string ⟨t.toArray⟩, .int .i64 0], .int .i64 t.length]) (by simp [results, Tryz.results57, go_sem, q0, q1, q2]) rfl (tok_yes HY.out (below_three hb _ _ _))
  | false =>
    rw [hn] at hM
    have HY := Lib.hid (show lxName s.data.toList = none by rw [HN.out, hn]; rfl)
    clear hn
    go_enter Tryz.func57, Tryz.ntmps57
    go_wp2_with fail
    refine (hL _).mono ?_
    rintro e w1 ⟨rfl, b1⟩
    go_wp2_with fail
    refine (hM _).mono ?_
    rintro e w2 ⟨rfl, b2⟩
    obtain ⟨q0, q1, q2, qf, hlt, hb⟩ := tok_cells (b1.trans (b2.mono b1.size))
    have q0f := qf 0
    have q1f := qf 1
    have q2f := qf 2
    clear qf b1 b2
    go_wp2_with fail
    exact bodyPost_ret (v := .tuple #[.agg #[.int .i64 0, .string ⟨#[]⟩, .int .i64 0], .int .i64 0]) (by simp [results, Tryz.results57, go_sem, q0, q1, q2]) rfl (tok_no HY.out (below_three hb _ _ _))

end Go.Proofs.YtibkncgfdhflgaaGreatDoor
