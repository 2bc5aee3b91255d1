/-
  What the document's lex answers of one token.
-/
import Derived.Test.YtakmkhkbeabgcaaDoorLa2
import Derived.Test.YtakmkhkbeabgcaaDoorMRn2
namespace Go.Proofs.YtakmkhkbeabgcaaDoor
open Go.RowKit

def OneIs (w : World) (i : Nat) (o : Wd) (e : Ending) (w' : World) : Prop :=
  Below w.heap.size w w' ∧ match o with
    | some (k, t, n) => e = .returned (.tuple #[.agg #[.int .i64 (k : Int), .string ⟨t.toArray⟩, .int .i64 (i : Int)], .int .i64 ((i + n : Nat) : Int), .bool true])
    | none => ∃ (a : Int) (t : ByteArray) (c n : Int), e = .returned (.tuple #[.agg #[.int .i64 a, .string t, .int .i64 c], .int .i64 n, .bool false])
theorem lone_yes {w w' : World} {i : Nat} {o : Wd} {k : Nat} {t : List UInt8} {n : Nat} {kk z : Int} {S : ByteArray} (h : o = some (k, t, n)) (hk : kk = (k : Int)) (hS : S.data.toList = t) (hz : z = ((i + n : Nat) : Int)) (hb : Below w.heap.size w w') : OneIs w i o (.returned (.tuple #[.agg #[.int .i64 kk, .string S, .int .i64 (i : Int)], .int .i64 z, .bool true])) w' := by
  obtain rfl := eq_ofL hS
  subst h hk hz
  exact ⟨hb, rfl⟩
theorem lone_no {w w' : World} {i : Nat} {o : Wd} {a c n : Int} {S : ByteArray} (h : o = none) (hb : Below w.heap.size w w') : OneIs w i o (.returned (.tuple #[.agg #[.int .i64 a, .string S, .int .i64 c], .int .i64 n, .bool false])) w' := by
  subst h
  exact ⟨hb, _, _, _, _, rfl⟩
/-- The cells of the result that one laid at its start, behind a call. -/
theorem tokT_cells {w w1 : World} (b1 : Below (w.alloc (.cells #[.int .i64 0, .string ⟨#[]⟩, .int .i64 0] 36)).heap.size (w.alloc (.cells #[.int .i64 0, .string ⟨#[]⟩, .int .i64 0] 36)) w1) :
    w1.cell? ⟨w.heap.size, 0, none⟩ = some (.int .i64 0) ∧ w1.cell? ⟨w.heap.size, 1, none⟩ = some (.string ⟨#[]⟩) ∧ w1.cell? ⟨w.heap.size, 2, none⟩ = some (.int .i64 0) ∧ (∀ j, w1.frozen? ⟨w.heap.size, j, none⟩ = false) ∧ w.heap.size < w1.heap.size ∧ Below w.heap.size w w1 := by
  have hz := b1.size
  simp only [World.size_alloc] at hz
  have hbx : w1.heap[w.heap.size]? = some (.cells #[.int .i64 0, .string ⟨#[]⟩, .int .i64 0] 36 (0, 0)) := by
    refine (b1.block _ (by simp)).trans ?_
    have := heap_alloc_new w (.cells #[.int .i64 0, .string ⟨#[]⟩, .int .i64 0] 36)
    simpa using this
  exact ⟨Lib.cell_of_heap hbx 0, Lib.cell_of_heap hbx 1, Lib.cell_of_heap hbx 2, fun j => Lib.frozen_of_heap hbx j, by omega, ((Below.refl _ w).alloc (Nat.le_refl _) _).trans (b1.mono (by simp))⟩

/-! ### which token it is -/
theorem lxWord_c (b : UInt8) (r : List UInt8) : lxWord (b :: r) = if letU b then lxName (b :: r) else if b == 45 || digU b then lxNum (b :: r) else if Lib.hasPrefix (b :: r) lxFence then lxBlock (b :: r) else if b == 34 then lxQuoted (b :: r) else lxSign (b :: r) := rfl
theorem word_name {l : List UInt8} {b : UInt8} {r : List UInt8} (hl : l = b :: r) (h : letU b = true) : lxWord l = lxName l := by
  subst hl
  rw [lxWord_c, if_pos h]
theorem word_num {l : List UInt8} {b : UInt8} {r : List UInt8} (hl : l = b :: r) (h : letU b = false) (h2 : (b == 45 || digU b) = true) : lxWord l = lxNum l := by
  subst hl
  rw [lxWord_c, if_neg (by rw [h]; decide), if_pos h2]
theorem word_text {l : List UInt8} {r : List UInt8} (hl : l = 34 :: r) : lxWord l = (txtP l).map fun p => (4, p.1, p.2) := by
  subst hl
  rw [lxWord_c, if_neg (by decide), if_neg (by decide), lxBlock_blk, lxQuoted_qt]
  unfold txtP
  cases Lib.hasPrefix (34 :: r) lxFence <;> rfl
theorem word_sign {l : List UInt8} {b : UInt8} {r : List UInt8} (hl : l = b :: r) (h : letU b = false) (h2 : (b == 45 || digU b) = false) (h3 : (b == 34) = false) : lxWord l = lxSign l := by
  subst hl
  have hf : Lib.hasPrefix (b :: r) lxFence = false := by
    have e : Lib.hasPrefix (b :: r) lxFence = ((34 : UInt8) == b && Lib.hasPrefix r [34, 34]) := rfl
    rw [e, show ((34 : UInt8) == b) = (b == 34) from Bool.eq_iff_iff.2 (by simp only [beq_iff_eq]; exact eq_comm), h3]
    rfl
  rw [lxWord_c, if_neg (by rw [h]; decide), if_neg (by rw [h2]; decide), if_neg (by rw [hf]; decide), if_neg (by rw [h3]; decide)]
theorem nameGo_nm : ∀ (l : List UInt8) (i : Nat), (∀ b ∈ l, nmU b = true) → nameGo (i + 1) l = true
  | [], _, _ => rfl
  | b :: l, i, h => by
    show (nameOk (i + 1) b.toNat && nameGo (i + 1 + 1) l) = true
    rw [nameGo_nm l (i + 1) (fun c hc => h c (by simp [hc])), Bool.and_true]
    exact h b (by simp)
theorem tw_all (p : UInt8 → Bool) : ∀ l : List UInt8, ∀ b ∈ l.takeWhile p, p b = true
  | [], _, h => by simp at h
  | a :: l, b, h => by
    rw [List.takeWhile_cons] at h
    split at h
    · rename_i ha
      rcases List.mem_cons.1 h with rfl | h
      · exact ha
      · exact tw_all p l b h
    · simp at h
theorem nameB_tw {l : List UInt8} {b : UInt8} {r : List UInt8} (hl : l = b :: r) (h : letU b = true) : nameB (l.takeWhile nmU) = decide ((l.takeWhile nmU).length ≤ 40) := by
  subst hl
  rw [List.takeWhile_cons, if_pos (show nmU b = true by unfold nmU; rw [h]; rfl)]
  have h1 : nameGo 0 (b :: r.takeWhile nmU) = true := by
    show (nameOk 0 b.toNat && nameGo 1 (r.takeWhile nmU)) = true
    rw [nameGo_nm _ 0 (fun c hc => tw_all nmU r c hc), Bool.and_true]
    unfold nameOk
    rw [show letB (b.toNat : Int) = true from h]
    rfl
  unfold nameB
  rw [h1, Bool.and_true, List.length_cons, decide_eq_true (show 1 ≤ (r.takeWhile nmU).length + 1 by omega), Bool.true_and]
theorem tw_next {s : ByteArray} {k : Nat} (p : UInt8 → Bool) (h : k < s.size) (hp : p s[k] = true) : ((s.data.toList.drop k).takeWhile p).length = 1 + ((s.data.toList.drop (k + 1)).takeWhile p).length := by
  rw [drop_cons s k h, List.takeWhile_cons, if_pos hp, List.length_cons]
  omega
theorem tw_stop {s : ByteArray} {k : Nat} (p : UInt8 → Bool) (h : k < s.size) (hp : p s[k] = false) : ((s.data.toList.drop k).takeWhile p).length = 0 := by
  rw [drop_cons s k h, List.takeWhile_cons, if_neg (by rw [hp]; decide)]
  rfl
theorem tw_end {s : ByteArray} {k : Nat} (p : UInt8 → Bool) (h : ¬ k < s.size) : ((s.data.toList.drop k).takeWhile p).length = 0 := by
  rw [drop_end s k h]
  rfl
theorem tw_is {s : ByteArray} {i k j : Nat} (p : UInt8 → Bool) (hk : k = i + j) (h : ((s.data.toList.drop i).takeWhile p).length = j) : (s.extract i k).data.toList = (s.data.toList.drop i).takeWhile p := by
  rw [lext_list, hk, Nat.add_sub_cancel_left, ← h]
  have e := List.take_left (l₁ := (s.data.toList.drop i).takeWhile p) (l₂ := (s.data.toList.drop i).dropWhile p)
  rwa [List.takeWhile_append_dropWhile] at e

set_option maxHeartbeats 4000000 in
set_option maxRecDepth 100000 in
theorem one_name (s : ByteArray) (i : Nat) (w : World) (hi : i < s.size) (hs : s.size ≤ 90000) (h1 : letU s[i] = true) : Calls Tryd.prog 17 #[.string s, .int .i64 (i : Int)] w (OneIs w i (lxWord (s.data.toList.drop i))) := by
  have HD := Lib.hid (drop_cons s i hi)
  have HW := Lib.hid (word_name HD.out h1)
  have HB := Lib.hid (nameB_tw HD.out h1)
  have hL : ∀ W, Calls Tryd.prog 26 #[.int .u8 (s[i].toNat : Int)] W fun e w' => e = .returned (.bool true) ∧ W = w' := fun W => by have := refLetter_any s[i].toNat W; rw [show letB (s[i].toNat : Int) = true from h1] at this; exact this
  clear h1
  go_enter Tryd.func17, Tryd.ntmps17
  go_wp2_with fail
  refine (hL _).mono ?_
  rintro e w' ⟨rfl, rfl⟩
  go_wp2_with fail
  go_loop [8] (fun v8 => ∃ k j : Nat, v8 = .int .i64 (k : Nat) ∧ i ≤ k ∧ k ≤ s.size ∧ Hid (k = i + j) ∧ Hid (((s.data.toList.drop i).takeWhile nmU).length = j + ((s.data.toList.drop k).takeWhile nmU).length)) (fun v8 => s.size - (intOf v8).toNat)
  case atStart => exact ⟨i, 0, rfl, Nat.le_refl _, by omega, Lib.hid rfl, Lib.hid (Nat.zero_add _).symm⟩
  case round =>
    obtain ⟨k, j, rfl, hk1, hk2, HK, HR⟩ := hrel
    by_cases hil : k < s.size
    · have hd1 : decide ((k : Int) < s.size) = true := decide_eq_true (by omega)
      have hLk := fun W => refLetter_any s[k].toNat W
      have hDk := fun W => refDigit_any s[k].toNat W
      have hPk := fun W => refPart_any s[k] W
      cases h2 : letB (s[k].toNat : Int) with
      | true =>
        rw [h2] at hLk
        have HN := Lib.hid (tw_next nmU hil (show nmU s[k] = true by unfold nmU letU; rw [h2]; rfl))
        clear h2
        go_wp2_with (first | ((go_at_call 26); (refine (hLk _).mono ?_); rintro e w' ⟨rfl, rfl⟩) | ((go_at_call 27); (refine (hDk _).mono ?_); rintro e w' ⟨rfl, rfl⟩))
        go_round
        case rel => exact ⟨k + 1, j + 1, by go_num, by omega, by omega, Lib.hid (by have := HK.out; omega), Lib.hid (by rw [HR.out, HN.out]; omega)⟩
        case measure => simp [intOf]; omega
      | false =>
        rw [h2] at hLk
        cases h3 : digB (s[k].toNat : Int) with
        | true =>
          rw [h3] at hDk
          have HN := Lib.hid (tw_next nmU hil (show nmU s[k] = true by unfold nmU letU digU; rw [h2, h3]; rfl))
          clear h2 h3
          go_wp2_with (first | ((go_at_call 26); (refine (hLk _).mono ?_); rintro e w' ⟨rfl, rfl⟩) | ((go_at_call 27); (refine (hDk _).mono ?_); rintro e w' ⟨rfl, rfl⟩))
          go_round
          case rel => exact ⟨k + 1, j + 1, by go_num, by omega, by omega, Lib.hid (by have := HK.out; omega), Lib.hid (by rw [HR.out, HN.out]; omega)⟩
          case measure => simp [intOf]; omega
        | false =>
          rw [h3] at hDk
          have HJ := Lib.hid (show ((s.data.toList.drop i).takeWhile nmU).length = j by rw [HR.out, tw_stop nmU hil (show nmU s[k] = false by unfold nmU letU digU; rw [h2, h3]; rfl)]; rfl)
          clear h2 h3
          have hsl := slice_two' s i k (by omega) (by omega) (k : Int) rfl
          have HX := Lib.hid (tw_is nmU HK.out HJ.out)
          have hwr : IntKind.i64.wrap ((k : Int) - i) = (k : Int) - i := IntWalk.i64_in _ (by omega)
          by_cases h40 : j ≤ 40
          · have hd40 : decide ((k : Int) - i ≤ 40) = true := decide_eq_true (by have := HK.out; omega)
            have HO := Lib.hid (show lxWord (s.data.toList.drop i) = some (1, (s.data.toList.drop i).takeWhile nmU, j) by
              rw [HW.out]
              unfold lxName
              rw [HB.out, HJ.out, if_pos (decide_eq_true h40)])
            generalize s.extract i k = ex at *
            go_wp2_with (first | ((go_at_call 26); (refine (hLk _).mono ?_); rintro e w' ⟨rfl, rfl⟩) | ((go_at_call 27); (refine (hDk _).mono ?_); rintro e w' ⟨rfl, rfl⟩))
            exact bodyPost_ret (v := .tuple #[.agg #[.int .i64 1, .string ex, .int .i64 (i : Int)], .int .i64 (k : Int), .bool true]) (by simp [results, Tryd.results17, go_sem]) rfl (lone_yes HO.out rfl HX.out (by have := HK.out; omega) ((Below.refl _ w).alloc (Nat.le_refl _) _))
          · have hd40 : decide ((k : Int) - i ≤ 40) = false := decide_eq_false (by have := HK.out; omega)
            have HO := Lib.hid (show lxWord (s.data.toList.drop i) = none by
              rw [HW.out]
              unfold lxName
              rw [HB.out, HJ.out, if_neg (by rw [decide_eq_false h40]; decide)])
            generalize s.extract i k = ex at *
            go_wp2_with (first | ((go_at_call 26); (refine (hLk _).mono ?_); rintro e w' ⟨rfl, rfl⟩) | ((go_at_call 27); (refine (hDk _).mono ?_); rintro e w' ⟨rfl, rfl⟩))
            exact bodyPost_ret (v := .tuple #[.agg #[.int .i64 1, .string ex, .int .i64 (i : Int)], .int .i64 (k : Int), .bool false]) (by simp [results, Tryd.results17, go_sem]) rfl (lone_no HO.out ((Below.refl _ w).alloc (Nat.le_refl _) _))
    · have hd1 : decide ((k : Int) < s.size) = false := decide_eq_false (by omega)
      have HJ := Lib.hid (show ((s.data.toList.drop i).takeWhile nmU).length = j by rw [HR.out, tw_end nmU hil]; rfl)
      have hsl := slice_two' s i k (by omega) (by omega) (k : Int) rfl
      have HX := Lib.hid (tw_is nmU HK.out HJ.out)
      have hwr : IntKind.i64.wrap ((k : Int) - i) = (k : Int) - i := IntWalk.i64_in _ (by omega)
      by_cases h40 : j ≤ 40
      · have hd40 : decide ((k : Int) - i ≤ 40) = true := decide_eq_true (by have := HK.out; omega)
        have HO := Lib.hid (show lxWord (s.data.toList.drop i) = some (1, (s.data.toList.drop i).takeWhile nmU, j) by
          rw [HW.out]
          unfold lxName
          rw [HB.out, HJ.out, if_pos (decide_eq_true h40)])
        generalize s.extract i k = ex at *
        go_wp2_with fail
        exact bodyPost_ret (v := .tuple #[.agg #[.int .i64 1, .string ex, .int .i64 (i : Int)], .int .i64 (k : Int), .bool true]) (by simp [results, Tryd.results17, go_sem]) rfl (lone_yes HO.out rfl HX.out (by have := HK.out; omega) ((Below.refl _ w).alloc (Nat.le_refl _) _))
      · have hd40 : decide ((k : Int) - i ≤ 40) = false := decide_eq_false (by have := HK.out; omega)
        have HO := Lib.hid (show lxWord (s.data.toList.drop i) = none by
          rw [HW.out]
          unfold lxName
          rw [HB.out, HJ.out, if_neg (by rw [decide_eq_false h40]; decide)])
        generalize s.extract i k = ex at *
        go_wp2_with fail
        exact bodyPost_ret (v := .tuple #[.agg #[.int .i64 1, .string ex, .int .i64 (i : Int)], .int .i64 (k : Int), .bool false]) (by simp [results, Tryd.results17, go_sem]) rfl (lone_no HO.out ((Below.refl _ w).alloc (Nat.le_refl _) _))

set_option maxHeartbeats 4000000 in
set_option maxRecDepth 100000 in
theorem one_num (s : ByteArray) (i : Nat) (w : World) (hi : i < s.size) (hs : s.size ≤ 90000) (h1 : letU s[i] = false) (h2 : (s[i] == 45) = true ∨ ((s[i] == 45) = false ∧ digU s[i] = true)) : Calls Tryd.prog 17 #[.string s, .int .i64 (i : Int)] w (OneIs w i (lxWord (s.data.toList.drop i))) := by
  have HD := Lib.hid (drop_cons s i hi)
  have HW := Lib.hid (word_num HD.out h1 (by rcases h2 with h | ⟨_, h⟩ <;> simp [h]))
  have hL : ∀ W, Calls Tryd.prog 26 #[.int .u8 (s[i].toNat : Int)] W fun e w' => e = .returned (.bool false) ∧ W = w' := fun W => by have := refLetter_any s[i].toNat W; rw [show letB (s[i].toNat : Int) = false from h1] at this; exact this
  have e45 : ((s[i].toNat : Int) == 45) = (s[i] == 45) := by rw [Bool.eq_iff_iff]; simp [← UInt8.toNat_inj]; omega
  have h2' : ((s[i].toNat : Int) == 45) = true ∨ (((s[i].toNat : Int) == 45) = false ∧ ∀ W, Calls Tryd.prog 27 #[.int .u8 (s[i].toNat : Int)] W fun e w' => e = .returned (.bool true) ∧ W = w') := by
    rcases h2 with h | ⟨h, h'⟩
    · exact .inl (e45.trans h)
    · exact .inr ⟨e45.trans h, fun W => by have := refDigit_any s[i].toNat W; rw [show digB (s[i].toNat : Int) = true from h'] at this; exact this⟩
  clear h1 h2 e45
  rcases h2' with m45 | ⟨m45, hD⟩
  · go_enter Tryd.func17, Tryd.ntmps17
    go_wp2_with fail
    refine (hL _).mono ?_
    rintro e w' ⟨rfl, rfl⟩
    go_wp2_with fail
    go_loop [8] (fun v8 => ∃ k j : Nat, v8 = .int .i64 (k : Nat) ∧ i ≤ k ∧ k ≤ s.size ∧ Hid (k = i + j) ∧ Hid (((s.data.toList.drop i).takeWhile nbU).length = j + ((s.data.toList.drop k).takeWhile nbU).length)) (fun v8 => s.size - (intOf v8).toNat)
    case atStart => exact ⟨i, 0, rfl, Nat.le_refl _, by omega, Lib.hid rfl, Lib.hid (Nat.zero_add _).symm⟩
    case round =>
      obtain ⟨k, j, rfl, hk1, hk2, HK, HR⟩ := hrel
      by_cases hil : k < s.size
      · have hd1 : decide ((k : Int) < s.size) = true := decide_eq_true (by omega)
        have hPk := fun W => refPart_any s[k] W
        cases h2 : nbU s[k] with
        | true =>
          rw [h2] at hPk
          have HN := Lib.hid (tw_next nbU hil h2)
          clear h2
          go_wp2_with ((go_at_call 28); (refine (hPk _).mono ?_); rintro e w' ⟨rfl, rfl⟩)
          go_round
          case rel => exact ⟨k + 1, j + 1, by go_num, by omega, by omega, Lib.hid (by have := HK.out; omega), Lib.hid (by rw [HR.out, HN.out]; omega)⟩
          case measure => simp [intOf]; omega
        | false =>
          rw [h2] at hPk
          have HJ := Lib.hid (show ((s.data.toList.drop i).takeWhile nbU).length = j by rw [HR.out, tw_stop nbU hil h2]; rfl)
          clear h2
          have hsl := slice_two' s i k (by omega) (by omega) (k : Int) rfl
          have HX := Lib.hid (tw_is nbU HK.out HJ.out)
          have hM := fun W => refnum_any (s.extract i k) W
          rw [HX.out] at hM
          have HO := Lib.hid (show lxWord (s.data.toList.drop i) = if numOk ((s.data.toList.drop i).takeWhile nbU) then some (if numWhole ((s.data.toList.drop i).takeWhile nbU) then 2 else 3, (s.data.toList.drop i).takeWhile nbU, j) else none by
            rw [HW.out]
            unfold lxNum
            rw [HJ.out])
          generalize s.extract i k = ex at *
          generalize numOk ((s.data.toList.drop i).takeWhile nbU) = ok at *
          generalize numWhole ((s.data.toList.drop i).takeWhile nbU) = wh at *
          cases wh with
          | true =>
            cases ok with
            | true =>
              go_wp2_with ((go_at_call 28); (refine (hPk _).mono ?_); rintro e w' ⟨rfl, rfl⟩)
              refine (hM _).mono ?_
              rintro e w' ⟨rfl, rfl⟩
              go_wp2_with fail
              exact bodyPost_ret (v := .tuple #[.agg #[.int .i64 2, .string ex, .int .i64 (i : Int)], .int .i64 (k : Int), .bool true]) (by simp [results, Tryd.results17, go_sem]) rfl (lone_yes HO.out rfl HX.out (by have := HK.out; omega) ((Below.refl _ w).alloc (Nat.le_refl _) _))
            | false =>
              go_wp2_with ((go_at_call 28); (refine (hPk _).mono ?_); rintro e w' ⟨rfl, rfl⟩)
              refine (hM _).mono ?_
              rintro e w' ⟨rfl, rfl⟩
              go_wp2_with fail
              exact bodyPost_ret (v := .tuple #[.agg #[.int .i64 2, .string ex, .int .i64 (i : Int)], .int .i64 (k : Int), .bool false]) (by simp [results, Tryd.results17, go_sem]) rfl (lone_no HO.out ((Below.refl _ w).alloc (Nat.le_refl _) _))
          | false =>
            cases ok with
            | true =>
              go_wp2_with ((go_at_call 28); (refine (hPk _).mono ?_); rintro e w' ⟨rfl, rfl⟩)
              refine (hM _).mono ?_
              rintro e w' ⟨rfl, rfl⟩
              go_wp2_with fail
              exact bodyPost_ret (v := .tuple #[.agg #[.int .i64 3, .string ex, .int .i64 (i : Int)], .int .i64 (k : Int), .bool true]) (by simp [results, Tryd.results17, go_sem]) rfl (lone_yes HO.out rfl HX.out (by have := HK.out; omega) ((Below.refl _ w).alloc (Nat.le_refl _) _))
            | false =>
              go_wp2_with ((go_at_call 28); (refine (hPk _).mono ?_); rintro e w' ⟨rfl, rfl⟩)
              refine (hM _).mono ?_
              rintro e w' ⟨rfl, rfl⟩
              go_wp2_with fail
              exact bodyPost_ret (v := .tuple #[.agg #[.int .i64 3, .string ex, .int .i64 (i : Int)], .int .i64 (k : Int), .bool false]) (by simp [results, Tryd.results17, go_sem]) rfl (lone_no HO.out ((Below.refl _ w).alloc (Nat.le_refl _) _))
      · have hd1 : decide ((k : Int) < s.size) = false := decide_eq_false (by omega)
        have HJ := Lib.hid (show ((s.data.toList.drop i).takeWhile nbU).length = j by rw [HR.out, tw_end nbU hil]; rfl)
        have hsl := slice_two' s i k (by omega) (by omega) (k : Int) rfl
        have HX := Lib.hid (tw_is nbU HK.out HJ.out)
        have hM := fun W => refnum_any (s.extract i k) W
        rw [HX.out] at hM
        have HO := Lib.hid (show lxWord (s.data.toList.drop i) = if numOk ((s.data.toList.drop i).takeWhile nbU) then some (if numWhole ((s.data.toList.drop i).takeWhile nbU) then 2 else 3, (s.data.toList.drop i).takeWhile nbU, j) else none by
          rw [HW.out]
          unfold lxNum
          rw [HJ.out])
        generalize s.extract i k = ex at *
        generalize numOk ((s.data.toList.drop i).takeWhile nbU) = ok at *
        generalize numWhole ((s.data.toList.drop i).takeWhile nbU) = wh at *
        cases wh with
        | true =>
          cases ok with
          | true =>
            go_wp2_with fail
            refine (hM _).mono ?_
            rintro e w' ⟨rfl, rfl⟩
            go_wp2_with fail
            exact bodyPost_ret (v := .tuple #[.agg #[.int .i64 2, .string ex, .int .i64 (i : Int)], .int .i64 (k : Int), .bool true]) (by simp [results, Tryd.results17, go_sem]) rfl (lone_yes HO.out rfl HX.out (by have := HK.out; omega) ((Below.refl _ w).alloc (Nat.le_refl _) _))
          | false =>
            go_wp2_with fail
            refine (hM _).mono ?_
            rintro e w' ⟨rfl, rfl⟩
            go_wp2_with fail
            exact bodyPost_ret (v := .tuple #[.agg #[.int .i64 2, .string ex, .int .i64 (i : Int)], .int .i64 (k : Int), .bool false]) (by simp [results, Tryd.results17, go_sem]) rfl (lone_no HO.out ((Below.refl _ w).alloc (Nat.le_refl _) _))
        | false =>
          cases ok with
          | true =>
            go_wp2_with fail
            refine (hM _).mono ?_
            rintro e w' ⟨rfl, rfl⟩
            go_wp2_with fail
            exact bodyPost_ret (v := .tuple #[.agg #[.int .i64 3, .string ex, .int .i64 (i : Int)], .int .i64 (k : Int), .bool true]) (by simp [results, Tryd.results17, go_sem]) rfl (lone_yes HO.out rfl HX.out (by have := HK.out; omega) ((Below.refl _ w).alloc (Nat.le_refl _) _))
          | false =>
            go_wp2_with fail
            refine (hM _).mono ?_
            rintro e w' ⟨rfl, rfl⟩
            go_wp2_with fail
            exact bodyPost_ret (v := .tuple #[.agg #[.int .i64 3, .string ex, .int .i64 (i : Int)], .int .i64 (k : Int), .bool false]) (by simp [results, Tryd.results17, go_sem]) rfl (lone_no HO.out ((Below.refl _ w).alloc (Nat.le_refl _) _))
  · go_enter Tryd.func17, Tryd.ntmps17
    go_wp2_with fail
    refine (hL _).mono ?_
    rintro e w' ⟨rfl, rfl⟩
    go_wp2_with fail
    refine (hD _).mono ?_
    rintro e w' ⟨rfl, rfl⟩
    go_wp2_with fail
    go_loop [8] (fun v8 => ∃ k j : Nat, v8 = .int .i64 (k : Nat) ∧ i ≤ k ∧ k ≤ s.size ∧ Hid (k = i + j) ∧ Hid (((s.data.toList.drop i).takeWhile nbU).length = j + ((s.data.toList.drop k).takeWhile nbU).length)) (fun v8 => s.size - (intOf v8).toNat)
    case atStart => exact ⟨i, 0, rfl, Nat.le_refl _, by omega, Lib.hid rfl, Lib.hid (Nat.zero_add _).symm⟩
    case round =>
      obtain ⟨k, j, rfl, hk1, hk2, HK, HR⟩ := hrel
      by_cases hil : k < s.size
      · have hd1 : decide ((k : Int) < s.size) = true := decide_eq_true (by omega)
        have hPk := fun W => refPart_any s[k] W
        cases h2 : nbU s[k] with
        | true =>
          rw [h2] at hPk
          have HN := Lib.hid (tw_next nbU hil h2)
          clear h2
          go_wp2_with ((go_at_call 28); (refine (hPk _).mono ?_); rintro e w' ⟨rfl, rfl⟩)
          go_round
          case rel => exact ⟨k + 1, j + 1, by go_num, by omega, by omega, Lib.hid (by have := HK.out; omega), Lib.hid (by rw [HR.out, HN.out]; omega)⟩
          case measure => simp [intOf]; omega
        | false =>
          rw [h2] at hPk
          have HJ := Lib.hid (show ((s.data.toList.drop i).takeWhile nbU).length = j by rw [HR.out, tw_stop nbU hil h2]; rfl)
          clear h2
          have hsl := slice_two' s i k (by omega) (by omega) (k : Int) rfl
          have HX := Lib.hid (tw_is nbU HK.out HJ.out)
          have hM := fun W => refnum_any (s.extract i k) W
          rw [HX.out] at hM
          have HO := Lib.hid (show lxWord (s.data.toList.drop i) = if numOk ((s.data.toList.drop i).takeWhile nbU) then some (if numWhole ((s.data.toList.drop i).takeWhile nbU) then 2 else 3, (s.data.toList.drop i).takeWhile nbU, j) else none by
            rw [HW.out]
            unfold lxNum
            rw [HJ.out])
          generalize s.extract i k = ex at *
          generalize numOk ((s.data.toList.drop i).takeWhile nbU) = ok at *
          generalize numWhole ((s.data.toList.drop i).takeWhile nbU) = wh at *
          cases wh with
          | true =>
            cases ok with
            | true =>
              go_wp2_with ((go_at_call 28); (refine (hPk _).mono ?_); rintro e w' ⟨rfl, rfl⟩)
              refine (hM _).mono ?_
              rintro e w' ⟨rfl, rfl⟩
              go_wp2_with fail
              exact bodyPost_ret (v := .tuple #[.agg #[.int .i64 2, .string ex, .int .i64 (i : Int)], .int .i64 (k : Int), .bool true]) (by simp [results, Tryd.results17, go_sem]) rfl (lone_yes HO.out rfl HX.out (by have := HK.out; omega) ((Below.refl _ w).alloc (Nat.le_refl _) _))
            | false =>
              go_wp2_with ((go_at_call 28); (refine (hPk _).mono ?_); rintro e w' ⟨rfl, rfl⟩)
              refine (hM _).mono ?_
              rintro e w' ⟨rfl, rfl⟩
              go_wp2_with fail
              exact bodyPost_ret (v := .tuple #[.agg #[.int .i64 2, .string ex, .int .i64 (i : Int)], .int .i64 (k : Int), .bool false]) (by simp [results, Tryd.results17, go_sem]) rfl (lone_no HO.out ((Below.refl _ w).alloc (Nat.le_refl _) _))
          | false =>
            cases ok with
            | true =>
              go_wp2_with ((go_at_call 28); (refine (hPk _).mono ?_); rintro e w' ⟨rfl, rfl⟩)
              refine (hM _).mono ?_
              rintro e w' ⟨rfl, rfl⟩
              go_wp2_with fail
              exact bodyPost_ret (v := .tuple #[.agg #[.int .i64 3, .string ex, .int .i64 (i : Int)], .int .i64 (k : Int), .bool true]) (by simp [results, Tryd.results17, go_sem]) rfl (lone_yes HO.out rfl HX.out (by have := HK.out; omega) ((Below.refl _ w).alloc (Nat.le_refl _) _))
            | false =>
              go_wp2_with ((go_at_call 28); (refine (hPk _).mono ?_); rintro e w' ⟨rfl, rfl⟩)
              refine (hM _).mono ?_
              rintro e w' ⟨rfl, rfl⟩
              go_wp2_with fail
              exact bodyPost_ret (v := .tuple #[.agg #[.int .i64 3, .string ex, .int .i64 (i : Int)], .int .i64 (k : Int), .bool false]) (by simp [results, Tryd.results17, go_sem]) rfl (lone_no HO.out ((Below.refl _ w).alloc (Nat.le_refl _) _))
      · have hd1 : decide ((k : Int) < s.size) = false := decide_eq_false (by omega)
        have HJ := Lib.hid (show ((s.data.toList.drop i).takeWhile nbU).length = j by rw [HR.out, tw_end nbU hil]; rfl)
        have hsl := slice_two' s i k (by omega) (by omega) (k : Int) rfl
        have HX := Lib.hid (tw_is nbU HK.out HJ.out)
        have hM := fun W => refnum_any (s.extract i k) W
        rw [HX.out] at hM
        have HO := Lib.hid (show lxWord (s.data.toList.drop i) = if numOk ((s.data.toList.drop i).takeWhile nbU) then some (if numWhole ((s.data.toList.drop i).takeWhile nbU) then 2 else 3, (s.data.toList.drop i).takeWhile nbU, j) else none by
          rw [HW.out]
          unfold lxNum
          rw [HJ.out])
        generalize s.extract i k = ex at *
        generalize numOk ((s.data.toList.drop i).takeWhile nbU) = ok at *
        generalize numWhole ((s.data.toList.drop i).takeWhile nbU) = wh at *
        cases wh with
        | true =>
          cases ok with
          | true =>
            go_wp2_with fail
            refine (hM _).mono ?_
            rintro e w' ⟨rfl, rfl⟩
            go_wp2_with fail
            exact bodyPost_ret (v := .tuple #[.agg #[.int .i64 2, .string ex, .int .i64 (i : Int)], .int .i64 (k : Int), .bool true]) (by simp [results, Tryd.results17, go_sem]) rfl (lone_yes HO.out rfl HX.out (by have := HK.out; omega) ((Below.refl _ w).alloc (Nat.le_refl _) _))
          | false =>
            go_wp2_with fail
            refine (hM _).mono ?_
            rintro e w' ⟨rfl, rfl⟩
            go_wp2_with fail
            exact bodyPost_ret (v := .tuple #[.agg #[.int .i64 2, .string ex, .int .i64 (i : Int)], .int .i64 (k : Int), .bool false]) (by simp [results, Tryd.results17, go_sem]) rfl (lone_no HO.out ((Below.refl _ w).alloc (Nat.le_refl _) _))
        | false =>
          cases ok with
          | true =>
            go_wp2_with fail
            refine (hM _).mono ?_
            rintro e w' ⟨rfl, rfl⟩
            go_wp2_with fail
            exact bodyPost_ret (v := .tuple #[.agg #[.int .i64 3, .string ex, .int .i64 (i : Int)], .int .i64 (k : Int), .bool true]) (by simp [results, Tryd.results17, go_sem]) rfl (lone_yes HO.out rfl HX.out (by have := HK.out; omega) ((Below.refl _ w).alloc (Nat.le_refl _) _))
          | false =>
            go_wp2_with fail
            refine (hM _).mono ?_
            rintro e w' ⟨rfl, rfl⟩
            go_wp2_with fail
            exact bodyPost_ret (v := .tuple #[.agg #[.int .i64 3, .string ex, .int .i64 (i : Int)], .int .i64 (k : Int), .bool false]) (by simp [results, Tryd.results17, go_sem]) rfl (lone_no HO.out ((Below.refl _ w).alloc (Nat.le_refl _) _))

end Go.Proofs.YtakmkhkbeabgcaaDoor
