/-
  What the document's lex answers of one token.
-/
import Derived.Test.YtakmkhkbeabgcaaDoorLa2
import Derived.Test.YtakmkhkbeabgcaaDoorMRn2
namespace Go.Proofs.YtakmkhkbeabgcaaDoor
open Go.RowKit

def OneIs (w : World) (i : Nat) (o : Wd) (e : Ending) (w' : World) : Prop :=
  Below w.heap.size w w' ∧ match o with
    | some (k, t, n) => e = .returned (.tuple #[.agg #[.int .i64 (k : Int), .string ⟨t.toArray⟩, .int .i64 (i : Int)], .int .i64 ((i + n : Nat) : Int), .bool true])
    | none => ∃ (a : Int) (t : ByteArray) (c n : Int), e = .returned (.tuple #[.agg #[.int .i64 a, .string t, .int .i64 c], .int .i64 n, .bool false])
theorem lone_yes {w w' : World} {i : Nat} {o : Wd} {k : Nat} {t : List UInt8} {n : Nat} {kk z : Int} {S : ByteArray} (h : o = some (k, t, n)) (hk : kk = (k : Int)) (hS : S.data.toList = t) (hz : z = ((i + n : Nat) : Int)) (hb : Below w.heap.size w w') : OneIs w i o (.returned (.tuple #[.agg #[.int .i64 kk, .string S, .int .i64 (i : Int)], .int .i64 z, .bool true])) w' := by
  obtain rfl := eq_ofL hS
  subst h hk hz
  exact ⟨hb, rfl⟩
theorem lone_no {w w' : World} {i : Nat} {o : Wd} {a c n : Int} {S : ByteArray} (h : o = none) (hb : Below w.heap.size w w') : OneIs w i o (.returned (.tuple #[.agg #[.int .i64 a, .string S, .int .i64 c], .int .i64 n, .bool false])) w' := by
  subst h
  exact ⟨hb, _, _, _, _, rfl⟩
/-- The cells of the result that one laid at its start, behind a call. -/
theorem tokT_cells {w w1 : World} (b1 : Below (w.alloc (.cells #[.int .i64 0, .string ⟨#[]⟩, .int .i64 0] 36)).heap.size (w.alloc (.cells #[.int .i64 0, .string ⟨#[]⟩, .int .i64 0] 36)) w1) :
    w1.cell? ⟨w.heap.size, 0, none⟩ = some (.int .i64 0) ∧ w1.cell? ⟨w.heap.size, 1, none⟩ = some (.string ⟨#[]⟩) ∧ w1.cell? ⟨w.heap.size, 2, none⟩ = some (.int .i64 0) ∧ (∀ j, w1.frozen? ⟨w.heap.size, j, none⟩ = false) ∧ w.heap.size < w1.heap.size ∧ Below w.heap.size w w1 := by
  have hz := b1.size
  simp only [World.size_alloc] at hz
  have hbx : w1.heap[w.heap.size]? = some (.cells #[.int .i64 0, .string ⟨#[]⟩, .int .i64 0] 36 (0, 0)) := by
    refine (b1.block _ (by simp)).trans ?_
    have := heap_alloc_new w (.cells #[.int .i64 0, .string ⟨#[]⟩, .int .i64 0] 36)
    simpa using this
  exact ⟨Lib.cell_of_heap hbx 0, Lib.cell_of_heap hbx 1, Lib.cell_of_heap hbx 2, fun j => Lib.frozen_of_heap hbx j, by omega, ((Below.refl _ w).alloc (Nat.le_refl _) _).trans (b1.mono (by simp))⟩

/-! ### which token it is -/
theorem lxWord_c (b : UInt8) (r : List UInt8) : lxWord (b :: r) = if letU b then lxName (b :: r) else if b == 45 || digU b then lxNum (b :: r) else if Lib.hasPrefix (b :: r) lxFence then lxBlock (b :: r) else if b == 34 then lxQuoted (b :: r) else lxSign (b :: r) := rfl
theorem word_name {l : List UInt8} {b : UInt8} {r : List UInt8} (hl : l = b :: r) (h : letU b = true) : lxWord l = lxName l := by
  subst hl
  rw [lxWord_c, if_pos h]
theorem word_num {l : List UInt8} {b : UInt8} {r : List UInt8} (hl : l = b :: r) (h : letU b = false) (h2 : (b == 45 || digU b) = true) : lxWord l = lxNum l := by
  subst hl
  rw [lxWord_c, if_neg (by rw [h]; decide), if_pos h2]
theorem word_text {l : List UInt8} {r : List UInt8} (hl : l = 34 :: r) : lxWord l = (txtP l).map fun p => (4, p.1, p.2) := by
  subst hl
  rw [lxWord_c, if_neg (by decide), if_neg (by decide), lxBlock_blk, lxQuoted_qt]
  unfold txtP
  cases Lib.hasPrefix (34 :: r) lxFence <;> rfl
theorem word_sign {l : List UInt8} {b : UInt8} {r : List UInt8} (hl : l = b :: r) (h : letU b = false) (h2 : (b == 45 || digU b) = false) (h3 : (b == 34) = false) : lxWord l = lxSign l := by
  subst hl
  have hf : Lib.hasPrefix (b :: r) lxFence = false := by
    have e : Lib.hasPrefix (b :: r) lxFence = ((34 : UInt8) == b && Lib.hasPrefix r [34, 34]) := rfl
    rw [e, show ((34 : UInt8) == b) = (b == 34) from Bool.eq_iff_iff.2 (by simp only [beq_iff_eq]; exact eq_comm), h3]
    rfl
  rw [lxWord_c, if_neg (by rw [h]; decide), if_neg (by rw [h2]; decide), if_neg (by rw [hf]; decide), if_neg (by rw [h3]; decide)]
theorem nameGo_nm : ∀ (l : List UInt8) (i : Nat), (∀ b ∈ l, nmU b = true) → nameGo (i + 1) l = true
  | [], _, _ => rfl
  | b :: l, i, h => by
    show (nameOk (i + 1) b.toNat && nameGo (i + 1 + 1) l) = true
    rw [nameGo_nm l (i + 1) (fun c hc => h c (by simp [hc])), Bool.and_true]
    exact h b (by simp)
theorem tw_all (p : UInt8 → Bool) : ∀ l : List UInt8, ∀ b ∈ l.takeWhile p, p b = true
  | [], _, h => by simp at h
  | a :: l, b, h => by
    rw [List.takeWhile_cons] at h
    split at h
    · rename_i ha
      rcases List.mem_cons.1 h with rfl | h
      · exact ha
      · exact tw_all p l b h
    · simp at h
theorem nameB_tw {l : List UInt8} {b : UInt8} {r : List UInt8} (hl : l = b :: r) (h : letU b = true) : nameB (l.takeWhile nmU) = decide ((l.takeWhile nmU).length ≤ 40) := by
  subst hl
  rw [List.takeWhile_cons, if_pos (show nmU b = true by unfold nmU; rw [h]; rfl)]
  have h1 : nameGo 0 (b :: r.takeWhile nmU) = true := by
    show (nameOk 0 b.toNat && nameGo 1 (r.takeWhile nmU)) = true
    rw [nameGo_nm _ 0 (fun c hc => tw_all nmU r c hc), Bool.and_true]
    unfold nameOk
    rw [show letB (b.toNat : Int) = true from h]
    rfl
  unfold nameB
  rw [h1, Bool.and_true, List.length_cons, decide_eq_true (show 1 ≤ (r.takeWhile nmU).length + 1 by omega), Bool.true_and]
theorem tw_next {s : ByteArray} {k : Nat} (p : UInt8 → Bool) (h : k < s.size) (hp : p s[k] = true) : ((s.data.toList.drop k).takeWhile p).length = 1 + ((s.data.toList.drop (k + 1)).takeWhile p).length := by
  rw [drop_cons s k h, List.takeWhile_cons, if_pos hp, List.length_cons]
  omega
theorem tw_stop {s : ByteArray} {k : Nat} (p : UInt8 → Bool) (h : k < s.size) (hp : p s[k] = false) : ((s.data.toList.drop k).takeWhile p).length = 0 := by
  rw [drop_cons s k h, List.takeWhile_cons, if_neg (by rw [hp]; decide)]
  rfl
theorem tw_end {s : ByteArray} {k : Nat} (p : UInt8 → Bool) (h : ¬ k < s.size) : ((s.data.toList.drop k).takeWhile p).length = 0 := by
  rw [drop_end s k h]
  rfl
theorem tw_is {s : ByteArray} {i k j : Nat} (p : UInt8 → Bool) (hk : k = i + j) (h : ((s.data.toList.drop i).takeWhile p).length = j) : (s.extract i k).data.toList = (s.data.toList.drop i).takeWhile p := by
  rw [lext_list, hk, Nat.add_sub_cancel_left, ← h]
  have e := List.take_left (l₁ := (s.data.toList.drop i).takeWhile p) (l₂ := (s.data.toList.drop i).dropWhile p)
  rwa [List.takeWhile_append_dropWhile] at e

set_option maxHeartbeats 4000000 in
set_option maxRecDepth 100000 in
theorem one_name (s : ByteArray) (i : Nat) (w : World) (hi : i < s.size) (hs : s.size ≤ 90000) (h1 : letU s[i] = true) : Calls Tryd.prog 17 #[.string s, .int .i64 (i : Int)] w (OneIs w i (lxWord (s.data.toList.drop i))) := by
  have HD := Lib.hid (drop_cons s i hi)
  have HW := Lib.hid (word_name HD.out h1)
  have HB := Lib.hid (nameB_tw HD.out h1)
  have hL : ∀ W, Calls Tryd.prog 26 #[.int .u8 (s[i].toNat : Int)] W fun e w' => e = .returned (.bool true) ∧ W = w' := fun W => by have := refLetter_any s[i].toNat W; rw [show letB (s[i].toNat : Int) = true from h1] at this; exact this
  clear h1
  go_enter Tryd.func17, Tryd.ntmps17
  go_wp2_with fail
  refine (hL _).mono ?_
  rintro e w' ⟨rfl, rfl⟩
  go_wp2_with fail
  go_loop [8] (fun v8 => ∃ k j : Nat, v8 = .int .i64 (k : Nat) ∧ i ≤ k ∧ k ≤ s.size ∧ Hid (k = i + j) ∧ Hid (((s.data.toList.drop i).takeWhile nmU).length = j + ((s.data.toList.drop k).takeWhile nmU).length)) (fun v8 => s.size - (intOf v8).toNat)
  case atStart => exact ⟨i, 0, rfl, Nat.le_refl _, by omega, Lib.hid rfl, Lib.hid (Nat.zero_add _).symm⟩
  case round =>
    obtain ⟨k, j, rfl, hk1, hk2, HK, HR⟩ := hrel
    by_cases hil : k < s.size
    · have hd1 : decide ((k : Int) < s.size) = true := decide_eq_true (by omega)
      have hLk := fun W => refLetter_any s[k].toNat W
      have hDk := fun W => refDigit_any s[k].toNat W
      have hPk := fun W => refPart_any s[k] W
      cases h2 : letB (s[k].toNat : Int) with
      | true =>
        rw [h2] at hLk
        have HN := Lib.hid (tw_next nmU hil (show nmU s[k] = true by unfold nmU letU; rw [h2]; rfl))
        clear h2
        go_wp2_with (first | ((go_at_call 26); (refine (hLk _).mono ?_); rintro e w' ⟨rfl, rfl⟩) | ((go_at_call 27); (refine (hDk _).mono ?_); rintro e w' ⟨rfl, rfl⟩))
        go_round
        case rel => exact ⟨k + 1, j + 1, by go_num, by omega, by omega, Lib.hid (by have := HK.out; omega), Lib.hid (by rw [HR.out, HN.out]; omega)⟩
        case measure => simp [intOf]; omega
      | false =>
        rw [h2] at hLk
        cases h3 : digB (s[k].toNat : Int) with
        | true =>
          rw [h3] at hDk
          have HN := Lib.hid (tw_next nmU hil (show nmU s[k] = true by unfold nmU letU digU; rw [h2, h3]; rfl))
          clear h2 h3
          go_wp2_with (first | ((go_at_call 26); (refine (hLk _).mono ?_); rintro e w' ⟨rfl, rfl⟩) | ((go_at_call 27); (refine (hDk _).mono ?_); rintro e w' ⟨rfl, rfl⟩))
          go_round
          case rel => exact ⟨k + 1, j + 1, by go_num, by omega, by omega, Lib.hid (by have := HK.out; omega), Lib.hid (by rw [HR.out, HN.out]; omega)⟩
          case measure => simp [intOf]; omega
        | false =>
          rw [h3] at hDk
          have HJ := Lib.hid (show ((s.data.toList.drop i).takeWhile nmU).length = j by rw [HR.out, tw_stop nmU hil (show nmU s[k] = false by unfold nmU letU digU; rw [h2, h3]; rfl)]; rfl)
          clear h2 h3
          have hsl := slice_two' s i k (by omega) (by omega) (k : Int) rfl
          have HX := Lib.hid (tw_is nmU HK.out HJ.out)
          have hwr : IntKind.i64.wrap ((k : Int) - i) = (k : Int) - i := IntWalk.i64_in _ (by omega)
          by_cases h40 : j ≤ 40
          · have hd40 : decide ((k : Int) - i ≤ 40) = true := decide_eq_true (by have := HK.out; omega)
            have HO := Lib.hid (show lxWord (s.data.toList.drop i) = some (1, (s.data.toList.drop i).takeWhile nmU, j) by
              rw [HW.out]
              unfold lxName
              rw [HB.out, HJ.out, if_pos (decide_eq_true h40)])
            generalize s.extract i k = ex at *
            go_wp2_with (first | ((go_at_call 26); (refine (hLk _).mono ?_); rintro e w' ⟨rfl, rfl⟩) | ((go_at_call 27); (refine (hDk _).mono ?_); rintro e w' ⟨rfl, rfl⟩))
            exact bodyPost_ret (v := .tuple #[.agg #[.int .i64 1, .string ex, .int .i64 (i : Int)], .int .i64 (k : Int), .bool true]) (by simp [results, Tryd.results17, go_sem]) rfl (lone_yes HO.out rfl HX.out (by have := HK.out; omega) ((Below.refl _ w).alloc (Nat.le_refl _) _))
          · have hd40 : decide ((k : Int) - i ≤ 40) = false := decide_eq_false (by have := HK.out; omega)
            have HO := Lib.hid (show lxWord (s.data.toList.drop i) = none by
              rw [HW.out]
              unfold lxName
              rw [HB.out, HJ.out, if_neg (by rw [decide_eq_false h40]; decide)])
            generalize s.extract i k = ex at *
            go_wp2_with (first | ((go_at_call 26); (refine (hLk _).mono ?_); rintro e w' ⟨rfl, rfl⟩) | ((go_at_call 27); (refine (hDk _).mono ?_); rintro e w' ⟨rfl, rfl⟩))
            exact bodyPost_ret (v := .tuple #[.agg #[.int .i64 1, .string ex, .int .i64 (i : Int)], .int .i64 (k : Int), .bool false]) (by simp [results, Tryd.results17, go_sem]) rfl (lone_no HO.out ((Below.refl _ w).alloc (Nat.le_refl _) _))
    · have hd1 : decide ((k : Int) < s.size) = false := decide_eq_false (by omega)
      have HJ := Lib.hid (show ((s.data.toList.drop i).takeWhile nmU).length = j by rw [HR.out, tw_end nmU hil]; rfl)
      have hsl := slice_two' s i k (by omega) (by omega) (k : Int) rfl
      have HX := Lib.hid (tw_is nmU HK.out HJ.out)
      have hwr : IntKind.i64.wrap ((k : Int) - i) = (k : Int) - i := IntWalk.i64_in _ (by omega)
      by_cases h40 : j ≤ 40
      · have hd40 : decide ((k : Int) - i ≤ 40) = true := decide_eq_true (by have := HK.out; omega)
        have HO := Lib.hid (show lxWord (s.data.toList.drop i) = some (1, (s.data.toList.drop i).takeWhile nmU, j) by
          rw [HW.out]
          unfold lxName
          rw [HB.out, HJ.out, if_pos (decide_eq_true h40)])
        generalize s.extract i k = ex at *
        go_wp2_with fail
        exact bodyPost_ret (v := .tuple #[.agg #[.int .i64 1, .string ex, .int .i64 (i : Int)], .int .i64 (k : Int), .bool true]) (by simp [results, Tryd.results17, go_sem]) rfl (lone_yes HO.out rfl HX.out (by have := HK.out; omega) ((Below.refl _ w).alloc (Nat.le_refl _) _))
      · have hd40 : decide ((k : Int) - i ≤ 40) = false := decide_eq_false (by have := HK.out; omega)
        have HO := Lib.hid (show lxWord (s.data.toList.drop i) = none by
          rw [HW.out]
          unfold lxName
          rw [HB.out, HJ.out, if_neg (by rw [decide_eq_false h40]; decide)])
        generalize s.extract i k = ex at *
        go_wp2_with fail
        exact bodyPost_ret (v := .tuple #[.agg #[.int .i64 1, .string ex, .int .i64 (i : Int)], .int .i64 (k : Int), .bool false]) (by simp [results, Tryd.results17, go_sem]) rfl (lone_no HO.out ((Below.refl _ w).alloc (Nat.le_refl _) _))

set_option maxHeartbeats 4000000 in
set_option maxRecDepth 100000 in
theorem one_num (s : ByteArray) (i : Nat) (w : World) (hi : i < s.size) (hs : s.size ≤ 90000) (h1 : letU s[i] = false) (h2 : (s[i] == 45) = true ∨ ((s[i] == 45) = false ∧ digU s[i] = true)) : Calls Tryd.prog 17 #[.string s, .int .i64 (i : Int)] w (OneIs w i (lxWord (s.data.toList.drop i))) := by
  have HD := Lib.hid (drop_cons s i hi)
  have HW := Lib.hid (word_num HD.out h1 (by rcases h2 with h | ⟨_, h⟩ <;> simp [h]))
  have hL : ∀ W, Calls Tryd.prog 26 #[.int .u8 (s[i].toNat : Int)] W fun e w' => e = .returned (.bool false) ∧ W = w' := fun W => by have := refLetter_any s[i].toNat W; rw [show letB (s[i].toNat : Int) = false from h1] at this; exact this
  have e45 : ((s[i].toNat : Int) == 45) = (s[i] == 45) := by rw [Bool.eq_iff_iff]; simp [← UInt8.toNat_inj]; omega
  have h2' : ((s[i].toNat : Int) == 45) = true ∨ (((s[i].toNat : Int) == 45) = false ∧ ∀ W, Calls Tryd.prog 27 #[.int .u8 (s[i].toNat : Int)] W fun e w' => e = .returned (.bool true) ∧ W = w') := by
    rcases h2 with h | ⟨h, h'⟩
    · exact .inl (e45.trans h)
    · exact .inr ⟨e45.trans h, fun W => by have := refDigit_any s[i].toNat W; rw [show digB (s[i].toNat : Int) = true from h'] at this; exact this⟩
  clear h1 h2 e45
  rcases h2' with m45 | ⟨m45, hD⟩
  · go_enter Tryd.func17, Tryd.ntmps17
    go_wp2_with fail
    refine (hL _).mono ?_
    rintro e w' ⟨rfl, rfl⟩
    go_wp2_with fail
    go_loop [8] (fun v8 => ∃ k j : Nat, v8 = .int .i64 (k : Nat) ∧ i ≤ k ∧ k ≤ s.size ∧ Hid (k = i + j) ∧ Hid (((s.data.toList.drop i).takeWhile nbU).length = j + ((s.data.toList.drop k).takeWhile nbU).length)) (fun v8 => s.size - (intOf v8).toNat)
    case atStart => exact ⟨i, 0, rfl, Nat.le_refl _, by omega, Lib.hid rfl, Lib.hid (Nat.zero_add _).symm⟩
    case round =>
      obtain ⟨k, j, rfl, hk1, hk2, HK, HR⟩ := hrel
      by_cases hil : k < s.size
      · have hd1 : decide ((k : Int) < s.size) = true := decide_eq_true (by omega)
        have hPk := fun W => refPart_any s[k] W
        cases h2 : nbU s[k] with
        | true =>
          rw [h2] at hPk
          have HN := Lib.hid (tw_next nbU hil h2)
          clear h2
          go_wp2_with ((go_at_call 28); (refine (hPk _).mono ?_); rintro e w' ⟨rfl, rfl⟩)
          go_round
          case rel => exact ⟨k + 1, j + 1, by go_num, by omega, by omega, Lib.hid (by have := HK.out; omega), Lib.hid (by rw [HR.out, HN.out]; omega)⟩
          case measure => simp [intOf]; omega
        | false =>
          rw [h2] at hPk
          have HJ := Lib.hid (show ((s.data.toList.drop i).takeWhile nbU).length = j by rw [HR.out, tw_stop nbU hil h2]; rfl)
          clear h2
          have hsl := slice_two' s i k (by omega) (by omega) (k : Int) rfl
          have HX := Lib.hid (tw_is nbU HK.out HJ.out)
          have hM := fun W => refnum_any (s.extract i k) W
          rw [HX.out] at hM
          have HO := Lib.hid (show lxWord (s.data.toList.drop i) = if numOk ((s.data.toList.drop i).takeWhile nbU) then some (if numWhole ((s.data.toList.drop i).takeWhile nbU) then 2 else 3, (s.data.toList.drop i).takeWhile nbU, j) else none by
            rw [HW.out]
            unfold lxNum
            rw [HJ.out])
          generalize s.extract i k = ex at *
          generalize numOk ((s.data.toList.drop i).takeWhile nbU) = ok at *
          generalize numWhole ((s.data.toList.drop i).takeWhile nbU) = wh at *
          cases wh with
          | true =>
            cases ok with
            | true =>
              go_wp2_with ((go_at_call 28); (refine (hPk _).mono ?_); rintro e w' ⟨rfl, rfl⟩)
              refine (hM _).mono ?_
              rintro e w' ⟨rfl, rfl⟩
              go_wp2_with fail
              exact bodyPost_ret (v := .tuple #[.agg #[.int .i64 2, .string ex, .int .i64 (i : Int)], .int .i64 (k : Int), .bool true]) (by simp [results, Tryd.results17, go_sem]) rfl (lone_yes HO.out rfl HX.out (by have := HK.out; omega) ((Below.refl _ w).alloc (Nat.le_refl _) _))
            | false =>
              go_wp2_with ((go_at_call 28); (refine (hPk _).mono ?_); rintro e w' ⟨rfl, rfl⟩)
              refine (hM _).mono ?_
              rintro e w' ⟨rfl, rfl⟩
              go_wp2_with fail
              exact bodyPost_ret (v := .tuple #[.agg #[.int .i64 2, .string ex, .int .i64 (i : Int)], .int .i64 (k : Int), .bool false]) (by simp [results, Tryd.results17, go_sem]) rfl (lone_no HO.out ((Below.refl _ w).alloc (Nat.le_refl _) _))
          | false =>
            cases ok with
            | true =>
              go_wp2_with ((go_at_call 28); (refine (hPk _).mono ?_); rintro e w' ⟨rfl, rfl⟩)
              refine (hM _).mono ?_
              rintro e w' ⟨rfl, rfl⟩
              go_wp2_with fail
              exact bodyPost_ret (v := .tuple #[.agg #[.int .i64 3, .string ex, .int .i64 (i : Int)], .int .i64 (k : Int), .bool true]) (by simp [results, Tryd.results17, go_sem]) rfl (lone_yes HO.out rfl HX.out (by have := HK.out; omega) ((Below.refl _ w).alloc (Nat.le_refl _) _))
            | false =>
              go_wp2_with ((go_at_call 28); (refine (hPk _).mono ?_); rintro e w' ⟨rfl, rfl⟩)
              refine (hM _).mono ?_
              rintro e w' ⟨rfl, rfl⟩
              go_wp2_with fail
              exact bodyPost_ret (v := .tuple #[.agg #[.int .i64 3, .string ex, .int .i64 (i : Int)], .int .i64 (k : Int), .bool false]) (by simp [results, Tryd.results17, go_sem]) rfl (lone_no HO.out ((Below.refl _ w).alloc (Nat.le_refl _) _))
      · have hd1 : decide ((k : Int) < s.size) = false := decide_eq_false (by omega)
        have HJ := Lib.hid (show ((s.data.toList.drop i).takeWhile nbU).length = j by rw [HR.out, tw_end nbU hil]; rfl)
        have hsl := slice_two' s i k (by omega) (by omega) (k : Int) rfl
        have HX := Lib.hid (tw_is nbU HK.out HJ.out)
        have hM := fun W => refnum_any (s.extract i k) W
        rw [HX.out] at hM
        have HO := Lib.hid (show lxWord (s.data.toList.drop i) = if numOk ((s.data.toList.drop i).takeWhile nbU) then some (if numWhole ((s.data.toList.drop i).takeWhile nbU) then 2 else 3, (s.data.toList.drop i).takeWhile nbU, j) else none by
          rw [HW.out]
          unfold lxNum
          rw [HJ.out])
        generalize s.extract i k = ex at *
        generalize numOk ((s.data.toList.drop i).takeWhile nbU) = ok at *
        generalize numWhole ((s.data.toList.drop i).takeWhile nbU) = wh at *
        cases wh with
        | true =>
          cases ok with
          | true =>
            go_wp2_with fail
            refine (hM _).mono ?_
            rintro e w' ⟨rfl, rfl⟩
            go_wp2_with fail
            exact bodyPost_ret (v := .tuple #[.agg #[.int .i64 2, .string ex, .int .i64 (i : Int)], .int .i64 (k : Int), .bool true]) (by simp [results, Tryd.results17, go_sem]) rfl (lone_yes HO.out rfl HX.out (by have := HK.out; omega) ((Below.refl _ w).alloc (Nat.le_refl _) _))
          | false =>
            go_wp2_with fail
            refine (hM _).mono ?_
            rintro e w' ⟨rfl, rfl⟩
            go_wp2_with fail
            exact bodyPost_ret (v := .tuple #[.agg #[.int .i64 2, .string ex, .int .i64 (i : Int)], .int .i64 (k : Int), .bool false]) (by simp [results, Tryd.results17, go_sem]) rfl (lone_no HO.out ((Below.refl _ w).alloc (Nat.le_refl _) _))
        | false =>
          cases ok with
          | true =>
            go_wp2_with fail
            refine (hM _).mono ?_
            rintro e w' ⟨rfl, rfl⟩
            go_wp2_with fail
            exact bodyPost_ret (v := .tuple #[.agg #[.int .i64 3, .string ex, .int .i64 (i : Int)], .int .i64 (k : Int), .bool true]) (by simp [results, Tryd.results17, go_sem]) rfl (lone_yes HO.out rfl HX.out (by have := HK.out; omega) ((Below.refl _ w).alloc (Nat.le_refl _) _))
          | false =>
            go_wp2_with fail
            refine (hM _).mono ?_
            rintro e w' ⟨rfl, rfl⟩
            go_wp2_with fail
            exact bodyPost_ret (v := .tuple #[.agg #[.int .i64 3, .string ex, .int .i64 (i : Int)], .int .i64 (k : Int), .bool false]) (by simp [results, Tryd.results17, go_sem]) rfl (lone_no HO.out ((Below.refl _ w).alloc (Nat.le_refl _) _))
  · go_enter Tryd.func17, Tryd.ntmps17
    go_wp2_with fail
    refine (hL _).mono ?_
    rintro e w' ⟨rfl, rfl⟩
    go_wp2_with fail
    refine (hD _).mono ?_
    rintro e w' ⟨rfl, rfl⟩
    go_wp2_with fail
    go_loop [8] (fun v8 => ∃ k j : Nat, v8 = .int .i64 (k : Nat) ∧ i ≤ k ∧ k ≤ s.size ∧ Hid (k = i + j) ∧ Hid (((s.data.toList.drop i).takeWhile nbU).length = j + ((s.data.toList.drop k).takeWhile nbU).length)) (fun v8 => s.size - (intOf v8).toNat)
    case atStart => exact ⟨i, 0, rfl, Nat.le_refl _, by omega, Lib.hid rfl, Lib.hid (Nat.zero_add _).symm⟩
    case round =>
      obtain ⟨k, j, rfl, hk1, hk2, HK, HR⟩ := hrel
      by_cases hil : k < s.size
      · have hd1 : decide ((k : Int) < s.size) = true := decide_eq_true (by omega)
        have hPk := fun W => refPart_any s[k] W
        cases h2 : nbU s[k] with
        | true =>
          rw [h2] at hPk
          have HN := Lib.hid (tw_next nbU hil h2)
          clear h2
          go_wp2_with ((go_at_call 28); (refine (hPk _).mono ?_); rintro e w' ⟨rfl, rfl⟩)
          go_round
          case rel => exact ⟨k + 1, j + 1, by go_num, by omega, by omega, Lib.hid (by have := HK.out; omega), Lib.hid (by rw [HR.out, HN.out]; omega)⟩
          case measure => simp [intOf]; omega
        | false =>
          rw [h2] at hPk
          have HJ := Lib.hid (show ((s.data.toList.drop i).takeWhile nbU).length = j by rw [HR.out, tw_stop nbU hil h2]; rfl)
          clear h2
          have hsl := slice_two' s i k (by omega) (by omega) (k : Int) rfl
          have HX := Lib.hid (tw_is nbU HK.out HJ.out)
          have hM := fun W => refnum_any (s.extract i k) W
          rw [HX.out] at hM
          have HO := Lib.hid (show lxWord (s.data.toList.drop i) = if numOk ((s.data.toList.drop i).takeWhile nbU) then some (if numWhole ((s.data.toList.drop i).takeWhile nbU) then 2 else 3, (s.data.toList.drop i).takeWhile nbU, j) else none by
            rw [HW.out]
            unfold lxNum
            rw [HJ.out])
          generalize s.extract i k = ex at *
          generalize numOk ((s.data.toList.drop i).takeWhile nbU) = ok at *
          generalize numWhole ((s.data.toList.drop i).takeWhile nbU) = wh at *
          cases wh with
          | true =>
            cases ok with
            | true =>
              go_wp2_with ((go_at_call 28); (refine (hPk _).mono ?_); rintro e w' ⟨rfl, rfl⟩)
              refine (hM _).mono ?_
              rintro e w' ⟨rfl, rfl⟩
              go_wp2_with fail
              exact bodyPost_ret (v := .tuple #[.agg #[.int .i64 2, .string ex, .int .i64 (i : Int)], .int .i64 (k : Int), .bool true]) (by simp [results, Tryd.results17, go_sem]) rfl (lone_yes HO.out rfl HX.out (by have := HK.out; omega) ((Below.refl _ w).alloc (Nat.le_refl _) _))
            | false =>
              go_wp2_with ((go_at_call 28); (refine (hPk _).mono ?_); rintro e w' ⟨rfl, rfl⟩)
              refine (hM _).mono ?_
              rintro e w' ⟨rfl, rfl⟩
              go_wp2_with fail
              exact bodyPost_ret (v := .tuple #[.agg #[.int .i64 2, .string ex, .int .i64 (i : Int)], .int .i64 (k : Int), .bool false]) (by simp [results, Tryd.results17, go_sem]) rfl (lone_no HO.out ((Below.refl _ w).alloc (Nat.le_refl _) _))
          | false =>
            cases ok with
            | true =>
              go_wp2_with ((go_at_call 28); (refine (hPk _).mono ?_); rintro e w' ⟨rfl, rfl⟩)
              refine (hM _).mono ?_
              rintro e w' ⟨rfl, rfl⟩
              go_wp2_with fail
              exact bodyPost_ret (v := .tuple #[.agg #[.int .i64 3, .string ex, .int .i64 (i : Int)], .int .i64 (k : Int), .bool true]) (by simp [results, Tryd.results17, go_sem]) rfl (lone_yes HO.out rfl HX.out (by have := HK.out; omega) ((Below.refl _ w).alloc (Nat.le_refl _) _))
            | false =>
              go_wp2_with ((go_at_call 28); (refine (hPk _).mono ?_); rintro e w' ⟨rfl, rfl⟩)
              refine (hM _).mono ?_
              rintro e w' ⟨rfl, rfl⟩
              go_wp2_with fail
              exact bodyPost_ret (v := .tuple #[.agg #[.int .i64 3, .string ex, .int .i64 (i : Int)], .int .i64 (k : Int), .bool false]) (by simp [results, Tryd.results17, go_sem]) rfl (lone_no HO.out ((Below.refl _ w).alloc (Nat.le_refl _) _))
      · have hd1 : decide ((k : Int) < s.size) = false := decide_eq_false (by omega)
        have HJ := Lib.hid (show ((s.data.toList.drop i).takeWhile nbU).length = j by rw [HR.out, tw_end nbU hil]; rfl)
        have hsl := slice_two' s i k (by omega) (by omega) (k : Int) rfl
        have HX := Lib.hid (tw_is nbU HK.out HJ.out)
        have hM := fun W => refnum_any (s.extract i k) W
        rw [HX.out] at hM
        have HO := Lib.hid (show lxWord (s.data.toList.drop i) = if numOk ((s.data.toList.drop i).takeWhile nbU) then some (if numWhole ((s.data.toList.drop i).takeWhile nbU) then 2 else 3, (s.data.toList.drop i).takeWhile nbU, j) else none by
          rw [HW.out]
          unfold lxNum
          rw [HJ.out])
        generalize s.extract i k = ex at *
        generalize numOk ((s.data.toList.drop i).takeWhile nbU) = ok at *
        generalize numWhole ((s.data.toList.drop i).takeWhile nbU) = wh at *
        cases wh with
        | true =>
          cases ok with
          | true =>
            go_wp2_with fail
            refine (hM _).mono ?_
            rintro e w' ⟨rfl, rfl⟩
            go_wp2_with fail
            exact bodyPost_ret (v := .tuple #[.agg #[.int .i64 2, .string ex, .int .i64 (i : Int)], .int .i64 (k : Int), .bool true]) (by simp [results, Tryd.results17, go_sem]) rfl (lone_yes HO.out rfl HX.out (by have := HK.out; omega) ((Below.refl _ w).alloc (Nat.le_refl _) _))
          | false =>
            go_wp2_with fail
            refine (hM _).mono ?_
            rintro e w' ⟨rfl, rfl⟩
            go_wp2_with fail
            exact bodyPost_ret (v := .tuple #[.agg #[.int .i64 2, .string ex, .int .i64 (i : Int)], .int .i64 (k : Int), .bool false]) (by simp [results, Tryd.results17, go_sem]) rfl (lone_no HO.out ((Below.refl _ w).alloc (Nat.le_refl _) _))
        | false =>
          cases ok with
          | true =>
            go_wp2_with fail
            refine (hM _).mono ?_
            rintro e w' ⟨rfl, rfl⟩
            go_wp2_with fail
            exact bodyPost_ret (v := .tuple #[.agg #[.int .i64 3, .string ex, .int .i64 (i : Int)], .int .i64 (k : Int), .bool true]) (by simp [results, Tryd.results17, go_sem]) rfl (lone_yes HO.out rfl HX.out (by have := HK.out; omega) ((Below.refl _ w).alloc (Nat.le_refl _) _))
          | false =>
            go_wp2_with fail
            refine (hM _).mono ?_
            rintro e w' ⟨rfl, rfl⟩
            go_wp2_with fail
            exact bodyPost_ret (v := .tuple #[.agg #[.int .i64 3, .string ex, .int .i64 (i : Int)], .int .i64 (k : Int), .bool false]) (by simp [results, Tryd.results17, go_sem]) rfl (lone_no HO.out ((Below.refl _ w).alloc (Nat.le_refl _) _))

end Go.Proofs.YtakmkhkbeabgcaaDoor

/-
  Blanks and remarks between tokens: what lex reads where they change.
-/
namespace Go.Proofs.YtakmkhkbeabgcaaDoor
open Go.RowKit

/-! ### gaps -/
/-- Bytes that say nothing, and where they end: in a remark (true) or not. -/
def gapOk : Bool → List UInt8 → Bool
  | _, [] => true
  | false, b :: r => if lxBlank b then gapOk false r else if b == 35 then gapOk true r else false
  | true, b :: r => if lxEnd b then gapOk false r else gapOk true r
theorem gap_pre : ∀ (g h : List UInt8) (f : Bool), gapOk f (g ++ h) = true → gapOk f g = true
  | [], _, f, _ => by cases f <;> rfl
  | b :: g, h, false, hh => by
    rw [List.cons_append] at hh
    unfold gapOk at hh ⊢
    split at hh
    · rename_i h1
      rw [if_pos h1]
      exact gap_pre g h _ hh
    · rename_i h1
      rw [if_neg h1]
      split at hh
      · rename_i h2
        rw [if_pos h2]
        exact gap_pre g h _ hh
      · cases hh
  | b :: g, h, true, hh => by
    rw [List.cons_append] at hh
    unfold gapOk at hh ⊢
    split at hh
    · rename_i h1
      rw [if_pos h1]
      exact gap_pre g h _ hh
    · rename_i h1
      rw [if_neg h1]
      exact gap_pre g h _ hh
theorem end_blank {b : UInt8} (h : lxEnd b = true) : lxBlank b = true := by
  unfold lxEnd at h
  unfold lxBlank
  rw [Bool.or_eq_true] at h
  rcases h with h | h <;> simp [h]
theorem gap_blank {b : UInt8} {r : List UInt8} (h : lxBlank b = true) : gapOk false (b :: r) = gapOk false r := by
  rw [gapOk, if_pos h]
theorem gap_rem (r : List UInt8) : gapOk false (35 :: r) = gapOk true r := by
  rw [gapOk, if_neg (by decide), if_pos (by decide)]
theorem gap_in {b : UInt8} {r : List UInt8} (h : lxEnd b = false) : gapOk true (b :: r) = gapOk true r := by
  rw [gapOk, if_neg (by rw [h]; decide)]
theorem gap_out {b : UInt8} {r : List UInt8} (h : lxEnd b = true) : gapOk true (b :: r) = gapOk false (b :: r) := by
  rw [gap_blank (end_blank h)]
  show (if lxEnd b = true then gapOk false r else gapOk true r) = _
  rw [if_pos h]
theorem gap_ins (u r : List UInt8) (h : ∀ b ∈ u, lxEnd b = false) : gapOk true (u ++ r) = gapOk true r := by
  induction u with
  | nil => rfl
  | cons b u ih => rw [List.cons_append, gap_in (h b (by simp)), ih (fun c hc => h c (by simp [hc]))]
/-- The remark's part of a gap, and what stands behind it. -/
theorem gap_split : ∀ g : List UInt8, gapOk true g = true → ∃ u v, g = u ++ v ∧ (∀ b ∈ u, lxEnd b = false) ∧ (v = [] ∨ ∃ e v', v = e :: v' ∧ lxEnd e = true) ∧ gapOk false v = true
  | [], _ => ⟨[], [], rfl, by simp, .inl rfl, rfl⟩
  | b :: g, h => by
    cases hb : lxEnd b with
    | true => exact ⟨[], b :: g, rfl, by simp, .inr ⟨b, g, rfl, hb⟩, by rw [← gap_out hb]; exact h⟩
    | false =>
      rw [gap_in hb] at h
      obtain ⟨u, v, rfl, h1, h2, h3⟩ := gap_split g h
      refine ⟨b :: u, v, rfl, fun c hc => ?_, h2, h3⟩
      rcases List.mem_cons.1 hc with rfl | hc
      · exact hb
      · exact h1 c hc
theorem rem_of (u t : List UInt8) (hu : ∀ b ∈ u, lxEnd b = false) (ht : ∀ c, t.head? = some c → lxEnd c = true) : lxRem (35 :: (u ++ t)) = u.length + 1 := by
  have := rem_all (35 :: u) (fun b hb => by
    rcases List.mem_cons.1 hb with rfl | h
    · decide
    · exact hu b h) t
  rw [List.cons_append] at this
  rw [this]
  have h0 : lxRem t = 0 := by
    cases t with
    | nil => rfl
    | cons c t => rw [lxRem_cons, ht c rfl]; rfl
  rw [h0]
  simp
/-- A gap and the end of a line behind it say nothing. -/
theorem lxG_gap : ∀ (n : Nat) (g : List UInt8) (a : Nat) (acc : List Tk) (Y : List UInt8), g.length ≤ n → gapOk false g = true → lxG a (g ++ 10 :: Y) acc = lxG (a + g.length + 1) Y acc
  | _, [], a, acc, Y, _, _ => by
    rw [List.nil_append, lxG_blank _ _ _ _ (by decide)]
    rfl
  | 0, _ :: _, _, _, _, h, _ => by simp at h
  | n + 1, b :: g, a, acc, Y, hn, h => by
    rw [List.length_cons] at hn
    rw [List.cons_append]
    cases hb : lxBlank b with
    | true =>
      rw [gap_blank hb] at h
      rw [lxG_blank _ _ _ _ hb, lxG_gap n g (a + 1) acc Y (by omega) h, List.length_cons]
      congr 1
      omega
    | false =>
      have h35 : b = 35 := by
        rw [gapOk, if_neg (by rw [hb]; decide)] at h
        split at h
        · rename_i h2; exact beq_iff_eq.1 h2
        · cases h
      subst h35
      rw [gap_rem] at h
      obtain ⟨u, v, rfl, h1, h2, h3⟩ := gap_split g h
      rw [List.append_assoc, lxG_rem, rem_of u (v ++ 10 :: Y) h1 (fun c hc => by
        rcases h2 with rfl | ⟨e, v', rfl, he⟩
        · simp at hc; subst hc; decide
        · simp at hc; subst hc; exact he)]
      have hd : (35 :: (u ++ (v ++ 10 :: Y))).drop (u.length + 1) = v ++ 10 :: Y := by
        rw [List.drop_succ_cons]
        exact List.drop_left' rfl
      rw [List.length_append] at hn
      rw [hd, lxG_gap n v _ acc Y (by omega) h3, List.length_cons, List.length_append]
      congr 1
      omega

/-! ### what a text is made of -/
def startOk (m : List UInt8) : Prop := ∃ b r, m = b :: r ∧ lxBlank b = false ∧ (b == 35) = false
def Sg (S : List UInt8) : Nat → List Tk → Prop
  | a, [] => gapOk false (S.drop a) = true ∧ a ≤ S.length
  | a, t :: ts => ∃ n, a ≤ t.at_ ∧ t.at_ + n ≤ S.length ∧ gapOk false ((S.drop a).take (t.at_ - a)) = true ∧ lxWord (S.drop t.at_) = some (t.k, t.s, n) ∧ startOk (S.drop t.at_) ∧ Sg S (t.at_ + n) ts
theorem sg_ext {S p : List UInt8} {a : Nat} {ts : List Tk} (hp : S.drop a = p ++ S.drop (a + p.length)) (hs : Sg S (a + p.length) ts) (H : ∀ g m, S.drop (a + p.length) = g ++ m → gapOk false g = true → (m = [] ∨ startOk m) → gapOk false (p ++ g) = true) : Sg S a ts := by
  cases ts with
  | nil =>
    obtain ⟨h1, h2⟩ := hs
    refine ⟨?_, by omega⟩
    rw [hp]
    exact H _ [] (by simp) h1 (.inl rfl)
  | cons t ts =>
    obtain ⟨n, h1, h2, h3, h4, h5, h6⟩ := hs
    refine ⟨n, by omega, h2, ?_, h4, h5, h6⟩
    have hd : t.at_ - a = p.length + (t.at_ - (a + p.length)) := by omega
    rw [hd, hp, List.take_append, List.take_of_length_le (by omega), Nat.add_sub_cancel_left]
    refine H _ (S.drop t.at_) ?_ h3 (.inr h5)
    have : S.drop t.at_ = (S.drop (a + p.length)).drop (t.at_ - (a + p.length)) := by rw [List.drop_drop]; congr 1; omega
    rw [this, List.take_append_drop]
theorem seg : ∀ (n : Nat) (S : List UInt8) (a : Nat) (acc out : List Tk), S.length - a ≤ n → a ≤ S.length → lxG a (S.drop a) acc = (out, 0, 0) → ∃ ts, out = acc ++ ts ∧ Sg S a ts := by
  intro n
  induction n with
  | zero =>
    intro S a acc out hn ha h
    have hd : S.drop a = [] := List.drop_eq_nil_of_le (by omega)
    rw [hd, lxG_nil] at h
    refine ⟨[], by simp only [Prod.mk.injEq] at h; rw [← h.1]; simp, ?_, ha⟩
    rw [hd]; rfl
  | succ n ih =>
    intro S a acc out hn ha h
    cases hd : S.drop a with
    | nil =>
      rw [hd, lxG_nil] at h
      refine ⟨[], by simp only [Prod.mk.injEq] at h; rw [← h.1]; simp, ?_, ha⟩
      rw [hd]; rfl
    | cons b r =>
      have hlt : a < S.length := by
        rcases Nat.lt_or_ge a S.length with h' | h'
        · exact h'
        · rw [List.drop_eq_nil_of_le h'] at hd; cases hd
      have hr : ∀ m, S.drop (a + m) = (b :: r).drop m := fun m => by rw [← hd, List.drop_drop]
      rw [hd] at h
      cases hb : lxBlank b with
      | true =>
        rw [lxG_blank _ _ _ _ hb, show r = S.drop (a + 1) from (hr 1).symm] at h
        obtain ⟨ts, h1, h2⟩ := ih S (a + 1) acc out (by omega) (by omega) h
        refine ⟨ts, h1, sg_ext (p := [b]) (by rw [hd]; show _ = [b] ++ S.drop (a + 1); rw [hr 1]; rfl) h2 fun g m _ hg _ => ?_⟩
        rw [List.singleton_append, gap_blank hb]
        exact hg
      | false =>
        cases h35 : (b == 35) with
        | true =>
          obtain rfl : b = 35 := beq_iff_eq.1 h35
          have hrl : lxRem (35 :: r) ≤ (35 :: r).length := lxRem_le _
          have hl : (35 :: r).length = S.length - a := by rw [← hd, List.length_drop]
          have hrp := lxRem_pos (r := r) h35
          rw [lxG_rem, ← hr] at h
          obtain ⟨ts, h1, h2⟩ := ih S (a + lxRem (35 :: r)) acc out (by omega) (by omega) h
          have hpl : ((35 :: r).take (lxRem (35 :: r))).length = lxRem (35 :: r) := by rw [List.length_take]; omega
          have htw : (35 :: r).take (lxRem (35 :: r)) = (35 :: r).takeWhile fun b => !lxEnd b := by
            have e := List.take_left (l₁ := (35 :: r).takeWhile fun b => !lxEnd b) (l₂ := (35 :: r).dropWhile fun b => !lxEnd b)
            rw [List.takeWhile_append_dropWhile] at e
            exact e
          refine ⟨ts, h1, sg_ext (p := (35 :: r).take (lxRem (35 :: r))) ?_ (by rw [hpl]; exact h2) ?_⟩
          · rw [hpl, hr, hd, List.take_append_drop]
          · intro g m hgm hg hm
            rw [hpl, hr] at hgm
            have hall : ∀ c ∈ (35 :: r).take (lxRem (35 :: r)), lxEnd c = false := fun c hc => by
              rw [htw] at hc
              have := tw_all _ _ _ hc
              simpa using this
            have hhead : ∀ c, ((35 :: r).drop (lxRem (35 :: r))).head? = some c → lxEnd c = true := fun c hc => by
              have e : (35 :: r).drop (lxRem (35 :: r)) = (35 :: r).dropWhile fun b => !lxEnd b := by
                have e := List.drop_left (l₁ := (35 :: r).takeWhile fun b => !lxEnd b) (l₂ := (35 :: r).dropWhile fun b => !lxEnd b)
                rw [List.takeWhile_append_dropWhile] at e
                exact e
              rw [e] at hc
              have := List.head?_dropWhile_not (fun b => !lxEnd b) (35 :: r)
              rw [hc] at this
              simpa using this
            obtain ⟨k, hk⟩ : ∃ k, lxRem (35 :: r) = k + 1 := ⟨lxRem (35 :: r) - 1, by omega⟩
            rw [hk, List.take_succ_cons, List.cons_append, gap_rem, gap_ins _ _ (fun c hc => hall c (by rw [hk, List.take_succ_cons]; simp [hc]))]
            cases g with
            | nil => rfl
            | cons e g =>
              rw [hgm] at hhead
              rw [gap_out (hhead e rfl)]
              exact hg
        | false =>
          cases hw : lxWord (b :: r) with
          | none =>
            rw [lxG_none _ _ _ _ hb h35 hw] at h
            simp at h
          | some o =>
            obtain ⟨k, s, m⟩ := o
            have hle := lxWord_le hw
            have hl : (b :: r).length = S.length - a := by rw [← hd, List.length_drop]
            rw [lxG_some _ _ _ _ hb h35 hw, ← hr] at h
            obtain ⟨ts, h1, h2⟩ := ih S (a + m) _ out (by omega) (by omega) h
            refine ⟨⟨k, s, a⟩ :: ts, by rw [h1]; simp, m, Nat.le_refl _, by show a + m ≤ _; omega, by show gapOk false ((S.drop a).take (a - a)) = true; rw [Nat.sub_self, List.take_zero]; rfl, by show lxWord (S.drop a) = _; rw [hd]; exact hw, ⟨b, r, hd, hb, h35⟩, h2⟩

end Go.Proofs.YtakmkhkbeabgcaaDoor

/-
  A token reads the same where something else stands behind it.
-/
namespace Go.Proofs.YtakmkhkbeabgcaaDoor
open Go.RowKit

def sepOk (X : List UInt8) : Prop := ∀ c, X.head? = some c → nbU c = false ∧ c ≠ 34
theorem tw_app (p : UInt8 → Bool) (u X : List UInt8) (hu : ∀ b ∈ u, p b = true) (hX : ∀ c, X.head? = some c → p c = false) : (u ++ X).takeWhile p = u := by
  induction u with
  | nil =>
    cases X with
    | nil => rfl
    | cons c X => rw [List.nil_append, List.takeWhile_cons, if_neg (by rw [hX c rfl]; decide)]
  | cons b u ih => rw [List.cons_append, List.takeWhile_cons, if_pos (hu b (by simp)), ih (fun c hc => hu c (by simp [hc]))]
theorem tw_take (p : UInt8 → Bool) (l : List UInt8) : l.take (l.takeWhile p).length = l.takeWhile p := by
  have e := List.take_left (l₁ := l.takeWhile p) (l₂ := l.dropWhile p)
  rwa [List.takeWhile_append_dropWhile] at e
theorem pre_same (l X k : List UInt8) (m : Nat) (h1 : k.length ≤ m) (h2 : m ≤ l.length) : Lib.hasPrefix (l.take m ++ X) k = Lib.hasPrefix l k := by
  rw [qpre_take, qpre_take, List.take_append, List.take_take, Nat.min_eq_left h1, show k.length - (l.take m).length = 0 by rw [List.length_take]; omega, List.take_zero, List.append_nil]
theorem pre_is {l k : List UInt8} (h : Lib.hasPrefix l k = true) : l = k ++ l.drop k.length := by
  have := List.prefix_iff_eq_append.1 (List.isPrefixOf_iff_prefix.1 h)
  exact this.symm
theorem cut_same : ∀ (f i : Nat) (acc l raw : List UInt8) (n : Nat), lxCut f i acc l = some (raw, n) → ∃ m, n = i + m ∧ 3 ≤ m ∧ m ≤ l.length ∧ ∀ f' X, m ≤ f' → lxCut f' i acc (l.take m ++ X) = some (raw, n)
  | 0, _, _, _, _, _, h => by simp [lxCut] at h
  | _ + 1, _, _, [], _, _, h => by simp [lxCut] at h
  | f + 1, i, acc, b :: r, raw, n, h => by
    unfold lxCut at h
    split at h
    · rename_i hp
      have hl := (List.isPrefixOf_iff_prefix.1 hp).length_le
      have h3 : lxFence.length = 3 := rfl
      simp only [Option.some.injEq, Prod.mk.injEq] at h
      obtain ⟨rfl, rfl⟩ := h
      refine ⟨3, rfl, Nat.le_refl _, by omega, fun f' X hf => ?_⟩
      obtain ⟨f', rfl⟩ : ∃ g, f' = g + 1 := ⟨f' - 1, by omega⟩
      have hs := pre_same (b :: r) X lxFence 3 (by omega) (by omega)
      rw [hp] at hs
      rw [List.take_succ_cons, List.cons_append] at hs ⊢
      rw [lxCut, if_pos hs]
    · rename_i hp
      split at h
      · rename_i he
        have hl := (List.isPrefixOf_iff_prefix.1 he).length_le
        have h4 : lxEsc.length = 4 := rfl
        obtain ⟨m, h1, h2, h3, h5⟩ := cut_same f _ _ _ _ _ h
        rw [List.length_drop] at h3
        rw [List.length_cons] at hl
        refine ⟨m + 4, by omega, by omega, by rw [List.length_cons]; omega, fun f' X hf => ?_⟩
        obtain ⟨f', rfl⟩ : ∃ g, f' = g + 1 := ⟨f' - 1, by omega⟩
        have hs := pre_same (b :: r) X lxFence (m + 4) (by show 3 ≤ _; omega) (by rw [List.length_cons]; omega)
        have hs2 := pre_same (b :: r) X lxEsc (m + 4) (by show 4 ≤ _; omega) (by rw [List.length_cons]; omega)
        rw [he] at hs2
        rw [show Lib.hasPrefix (b :: r) lxFence = false by simpa using hp] at hs
        rw [List.take_succ_cons, List.cons_append] at hs hs2 ⊢
        rw [lxCut, if_neg (by rw [hs]; decide), if_pos hs2]
        have hd : (r.take (m + 3) ++ X).drop 3 = (r.drop 3).take m ++ X := by
          rw [List.drop_append, List.drop_take, show 3 - (r.take (m + 3)).length = 0 by rw [List.length_take]; omega, List.drop_zero, show m + 3 - 3 = m by omega]
        rw [hd]
        exact h5 f' X (by omega)
      · rename_i he
        obtain ⟨m, h1, h2, h3, h5⟩ := cut_same f _ _ _ _ _ h
        refine ⟨m + 1, by omega, by omega, by rw [List.length_cons]; omega, fun f' X hf => ?_⟩
        obtain ⟨f', rfl⟩ : ∃ g, f' = g + 1 := ⟨f' - 1, by omega⟩
        have hs := pre_same (b :: r) X lxFence (m + 1) (by show 3 ≤ _; omega) (by rw [List.length_cons]; omega)
        have hs2 := pre_same (b :: r) X lxEsc (m + 1) (by show 4 ≤ _; omega) (by rw [List.length_cons]; omega)
        rw [show Lib.hasPrefix (b :: r) lxFence = false by simpa using hp] at hs
        rw [show Lib.hasPrefix (b :: r) lxEsc = false by simpa using he] at hs2
        rw [List.take_succ_cons, List.cons_append] at hs hs2 ⊢
        rw [lxCut, if_neg (by rw [hs]; decide), if_neg (by rw [hs2]; decide)]
        exact h5 f' X (by omega)
theorem qs_same : ∀ (d : Nat) (l : List UInt8) (i : Nat), l.length ≤ d → lxQs i l ≠ 0 → ∃ m, lxQs i l = i + m ∧ 1 ≤ m ∧ m ≤ l.length ∧ ∀ X, lxQs i (l.take m ++ X) = i + m
  | _, [], _, _, h => absurd rfl h
  | 0, _ :: _, _, h, _ => by simp at h
  | d + 1, b :: r, i, hd, h => by
    rw [List.length_cons] at hd
    rw [lxQs_cons] at h ⊢
    by_cases h34 : b = 34
    · refine ⟨1, by rw [if_pos h34], Nat.le_refl _, by simp, fun X => ?_⟩
      rw [List.take_succ_cons, List.take_zero, List.cons_append, lxQs_cons, if_pos h34]
    · rw [if_neg h34] at h ⊢
      by_cases h92 : b = 92
      · rw [if_pos h92] at h ⊢
        cases r with
        | nil => exact absurd rfl h
        | cons c r =>
          rw [List.length_cons] at hd
          rw [List.drop_succ_cons, List.drop_zero] at h ⊢
          obtain ⟨m, h1, h2, h3, h4⟩ := qs_same d r (i + 2) (by omega) h
          refine ⟨m + 2, by omega, by omega, by simp only [List.length_cons]; omega, fun X => ?_⟩
          rw [List.take_succ_cons, List.take_succ_cons, List.cons_append, List.cons_append, lxQs_cons, if_neg h34, if_pos h92, List.drop_succ_cons, List.drop_zero, h4]
          omega
      · rw [if_neg h92] at h ⊢
        by_cases he : lxEnd b = true
        · rw [if_pos he] at h
          exact absurd rfl h
        · rw [if_neg he] at h ⊢
          obtain ⟨m, h1, h2, h3, h4⟩ := qs_same d r (i + 1) (by omega) h
          refine ⟨m + 1, by omega, by omega, by rw [List.length_cons]; omega, fun X => ?_⟩
          rw [List.take_succ_cons, List.cons_append, lxQs_cons, if_neg h34, if_neg h92, if_neg he, h4]
          omega

theorem word_same {l : List UInt8} {k : Nat} {t : List UInt8} {n : Nat} (h : lxWord l = some (k, t, n)) (X : List UInt8) (hX : sepOk X) : lxWord (l.take n ++ X) = some (k, t, n) := by
  have hle := lxWord_le h
  cases l with
  | nil => simp at hle; omega
  | cons b r =>
    have hXb : ∀ c, X.head? = some c → nbU c = false := fun c hc => (hX c hc).1
    have hXm : ∀ c, X.head? = some c → nmU c = false := fun c hc => by
      have := hXb c hc
      unfold nbU at this
      simp only [Bool.or_eq_false_iff] at this
      exact this.1.1.1
    obtain ⟨n, rfl⟩ : ∃ n', n = n' + 1 := ⟨n - 1, by omega⟩
    have hc : (b :: r).take (n + 1) ++ X = b :: (r.take n ++ X) := by rw [List.take_succ_cons, List.cons_append]
    cases h1 : letU b with
    | true =>
      rw [word_name rfl h1] at h
      rw [hc, word_name rfl h1, ← hc]
      unfold lxName at h ⊢
      split at h
      · rename_i hn
        simp only [Option.some.injEq, Prod.mk.injEq] at h
        obtain ⟨rfl, rfl, h3⟩ := h
        rw [← h3, tw_take, tw_app nmU _ X (fun c hc => tw_all nmU _ c hc) hXm, if_pos hn]
      · cases h
    | false =>
      cases h2 : (b == 45 || digU b) with
      | true =>
        rw [word_num rfl h1 h2] at h
        rw [hc, word_num rfl h1 h2, ← hc]
        unfold lxNum at h ⊢
        split at h
        · rename_i hn
          simp only [Option.some.injEq, Prod.mk.injEq] at h
          obtain ⟨h0, rfl, h3⟩ := h
          rw [← h3, tw_take, tw_app nbU _ X (fun c hc => tw_all nbU _ c hc) hXb, if_pos hn, h0]
        · cases h
      | false =>
        cases h3 : (b == 34) with
        | true =>
          obtain rfl : b = 34 := beq_iff_eq.1 h3
          rw [lxWord_c, if_neg (by decide), if_neg (by decide)] at h
          rw [hc, lxWord_c, if_neg (by decide), if_neg (by decide), ← hc]
          cases hf : Lib.hasPrefix (34 :: r) lxFence with
          | true =>
            rw [hf, if_pos rfl] at h
            unfold lxBlock at h
            split at h
            · cases h
            · rename_i raw m hcut
              split at h
              · rename_i hraw
                simp only [Option.some.injEq, Prod.mk.injEq] at h
                obtain ⟨rfl, rfl, rfl⟩ := h
                obtain ⟨m, e1, e2, e3, e4⟩ := cut_same _ _ _ _ _ _ hcut
                have hln : n + 1 ≤ (34 :: r).length := hle.2
                rw [pre_same (34 :: r) X lxFence (n + 1) (by show 3 ≤ _; omega) hln, hf, if_pos rfl]
                have hd : ((34 :: r).take (n + 1) ++ X).drop 3 = ((34 :: r).drop 3).take m ++ X := by
                  rw [List.drop_append, List.drop_take, show 3 - ((34 :: r).take (n + 1)).length = 0 by rw [List.length_take]; omega, List.drop_zero, show n + 1 - 3 = m by omega]
                unfold lxBlock
                rw [hd, e4 _ X (by rw [List.length_append, List.length_take]; omega)]
                show (if lxRaw raw = true then _ else _) = _
                rw [if_pos hraw]
              · cases h
          | false =>
            rw [hf, if_neg (by decide), if_pos (by decide)] at h
            unfold lxQuoted at h
            split at h
            · cases h
            · rename_i t' hu
              simp only [Option.some.injEq, Prod.mk.injEq] at h
              obtain ⟨rfl, rfl, hN⟩ := h
              have hN' : lxQs 1 r = n + 1 := hN
              obtain ⟨m, e1, e2, e3, e4⟩ := qs_same _ r 1 (Nat.le_refl _) (by omega)
              obtain rfl : n = m := by omega
              have hq : lxQn ((34 :: r).take (n + 1) ++ X) = n + 1 := by
                rw [hc]
                show lxQs 1 (r.take n ++ X) = n + 1
                rw [e4]
                omega
              have hfn : Lib.hasPrefix ((34 :: r).take (n + 1) ++ X) lxFence = false := by
                by_cases h3 : 3 ≤ n + 1
                · rw [pre_same (34 :: r) X lxFence (n + 1) h3 (by rw [List.length_cons]; omega), hf]
                · obtain rfl : n = 1 := by omega
                  cases r with
                  | nil => simp at e3
                  | cons c r =>
                    show Lib.hasPrefix (34 :: c :: X) lxFence = false
                    cases X with
                    | nil => simp [Lib.hasPrefix, lxFence, List.isPrefixOf]
                    | cons x X =>
                      have := (hX x rfl).2
                      simp [Lib.hasPrefix, lxFence, List.isPrefixOf, Ne.symm this]
              rw [hfn, if_neg (by decide), if_pos (by decide)]
              have ht : ((34 :: r).take (n + 1) ++ X).take (n + 1) = (34 :: r).take (n + 1) := by
                exact List.take_left' (by rw [List.length_take, List.length_cons]; omega)
              unfold lxQuoted
              rw [hq, ht]
              rw [show lxQn (34 :: r) = n + 1 from hN] at hu
              rw [hu]
        | false =>
          rw [word_sign rfl h1 h2 h3] at h
          rw [hc, word_sign rfl h1 h2 h3, ← hc]
          unfold lxSign at h
          split at h
          · rename_i hp
            simp only [Option.some.injEq, Prod.mk.injEq] at h
            obtain ⟨rfl, rfl, h5⟩ := h
            unfold lxSign
            rw [pre_same (b :: r) X lxDots (n + 1) (by show 3 ≤ _; omega) hle.2, if_pos hp, h5]
          · simp only at h
            split at h
            · rename_i hs
              simp only [Option.some.injEq, Prod.mk.injEq] at h
              obtain ⟨rfl, rfl, h5⟩ := h
              obtain rfl : n = 0 := by omega
              rw [hc, List.take_zero, List.nil_append]
              have hnd : Lib.hasPrefix (b :: X) lxDots = false := by
                have hb : b ≠ 46 := fun e => by subst e; revert hs; decide
                have e : Lib.hasPrefix (b :: X) lxDots = ((46 : UInt8) == b && Lib.hasPrefix X [46, 46]) := rfl
                rw [e, beq_eq_false_iff_ne.2 (Ne.symm hb)]
                rfl
              unfold lxSign
              rw [hnd, if_neg (by decide)]
              show (if signsS.data.toList.contains b = true then _ else _) = _
              rw [if_pos hs]
            · cases h

/-! ### what is cut off behind a token -/
def stpU (c : UInt8) : Bool := c == 32 || c == 44 || c == 10
theorem stp_nb {c : UInt8} (h : nbU c = true) : stpU c = false := by
  rw [Bool.eq_false_iff]
  intro e
  unfold stpU at e
  simp only [Bool.or_eq_true, beq_iff_eq] at e
  rcases e with (rfl | rfl) | rfl <;> revert h <;> decide
theorem word_tail {l : List UInt8} {k : Nat} {t : List UInt8} {n : Nat} (h : lxWord l = some (k, t, n)) (hk : k ≠ 4) : ∀ c ∈ l.take n, stpU c = false := by
  have hle := lxWord_le h
  cases l with
  | nil => simp
  | cons b r =>
    cases h1 : letU b with
    | true =>
      rw [word_name rfl h1] at h
      unfold lxName at h
      split at h
      · simp only [Option.some.injEq, Prod.mk.injEq] at h
        intro c hc
        rw [← h.2.2, tw_take] at hc
        have := tw_all nmU _ c hc
        exact stp_nb (by unfold nbU; rw [this]; rfl)
      · cases h
    | false =>
      cases h2 : (b == 45 || digU b) with
      | true =>
        rw [word_num rfl h1 h2] at h
        unfold lxNum at h
        split at h
        · simp only [Option.some.injEq, Prod.mk.injEq] at h
          intro c hc
          rw [← h.2.2, tw_take] at hc
          exact stp_nb (tw_all nbU _ c hc)
        · cases h
      | false =>
        cases h3 : (b == 34) with
        | true =>
          obtain rfl : b = 34 := beq_iff_eq.1 h3
          rw [word_text rfl] at h
          cases ho : txtP (34 :: r) with
          | none => rw [ho] at h; cases h
          | some o =>
            rw [ho] at h
            simp only [Option.map_some, Option.some.injEq, Prod.mk.injEq] at h
            exact absurd h.1.symm hk
        | false =>
          rw [word_sign rfl h1 h2 h3] at h
          unfold lxSign at h
          split at h
          · rename_i hp
            simp only [Option.some.injEq, Prod.mk.injEq] at h
            obtain ⟨rfl, rfl, rfl⟩ := h
            intro c hc
            rw [pre_is hp, List.take_left' (show lxDots.length = 3 from rfl)] at hc
            revert c
            decide
          · simp only at h
            split at h
            · rename_i hs
              simp only [Option.some.injEq, Prod.mk.injEq] at h
              obtain ⟨rfl, rfl, rfl⟩ := h
              intro c hc
              rw [List.take_succ_cons, List.take_zero, List.mem_singleton] at hc
              subst hc
              rw [Bool.eq_false_iff]
              intro e
              unfold stpU at e
              simp only [Bool.or_eq_true, beq_iff_eq] at e
              rcases e with (rfl | rfl) | rfl <;> revert hs <;> decide
            · cases h

end Go.Proofs.YtakmkhkbeabgcaaDoor

/-
  What the document's lex answers of one token: texts, signs.
-/
namespace Go.Proofs.YtakmkhkbeabgcaaDoor
open Go.RowKit

set_option maxHeartbeats 4000000 in
set_option maxRecDepth 100000 in
theorem one_text (s : ByteArray) (i : Nat) (w : World) (hi : i < s.size) (hs : s.size ≤ 90000) (h1 : letU s[i] = false) (h2 : (s[i] == 45) = false) (h3 : digU s[i] = false) (h4 : (s[i] == 34) = true) : Calls Tryd.prog 17 #[.string s, .int .i64 (i : Int)] w (OneIs w i (lxWord (s.data.toList.drop i))) := by
  have hL : ∀ W, Calls Tryd.prog 26 #[.int .u8 (s[i].toNat : Int)] W fun e w' => e = .returned (.bool false) ∧ W = w' := fun W => by have := refLetter_any s[i].toNat W; rw [show letB (s[i].toNat : Int) = false from h1] at this; exact this
  have hD : ∀ W, Calls Tryd.prog 27 #[.int .u8 (s[i].toNat : Int)] W fun e w' => e = .returned (.bool false) ∧ W = w' := fun W => by have := refDigit_any s[i].toNat W; rw [show digB (s[i].toNat : Int) = false from h3] at this; exact this
  have e45 : ((s[i].toNat : Int) == 45) = (s[i] == 45) := by rw [Bool.eq_iff_iff]; simp [← UInt8.toNat_inj]; omega
  have e34 : ((s[i].toNat : Int) == 34) = (s[i] == 34) := by rw [Bool.eq_iff_iff]; simp [← UInt8.toNat_inj]; omega
  rw [h2] at e45
  rw [h4] at e34
  have HW := Lib.hid (show lxWord (s.data.toList.drop i) = (txtP (s.data.toList.drop i)).map fun p => (4, p.1, p.2) from word_text (by rw [drop_cons s i hi, beq_iff_eq.1 h4]))
  have hT := fun W => refTx_any s i W hi hs
  clear h1 h2 h3 h4
  generalize txtP (s.data.toList.drop i) = o at *
  cases o with
  | none =>
    go_enter Tryd.func17, Tryd.ntmps17
    go_wp2_with fail
    refine (hL _).mono ?_
    rintro e w' ⟨rfl, rfl⟩
    go_wp2_with fail
    refine (hD _).mono ?_
    rintro e w' ⟨rfl, rfl⟩
    go_wp2_with fail
    refine (hT _).mono ?_
    rintro e w2 ⟨b2, t, n, rfl⟩
    obtain ⟨q0, q1, q2, qf, hlt, hb⟩ := tokT_cells b2
    have q0f := qf 0
    have q1f := qf 1
    have q2f := qf 2
    clear qf b2
    go_wp2_with fail
    exact bodyPost_ret (v := .tuple #[.agg #[.int .i64 4, .string t, .int .i64 (i : Int)], .int .i64 n, .bool false]) (by simp [results, Tryd.results17, go_sem, q0, q1, q2]) rfl (lone_no HW.out (below_three hb _ _ _))
  | some x =>
    obtain ⟨t, n⟩ := x
    go_enter Tryd.func17, Tryd.ntmps17
    go_wp2_with fail
    refine (hL _).mono ?_
    rintro e w' ⟨rfl, rfl⟩
    go_wp2_with fail
    refine (hD _).mono ?_
    rintro e w' ⟨rfl, rfl⟩
    go_wp2_with fail
    refine (hT _).mono ?_
    rintro e w2 ⟨b2, rfl⟩
    obtain ⟨q0, q1, q2, qf, hlt, hb⟩ := tokT_cells b2
    have q0f := qf 0
    have q1f := qf 1
    have q2f := qf 2
    clear qf b2
    go_wp2_with fail
    exact bodyPost_ret (v := .tuple #[.agg #[.int .i64 4, .string ⟨t.toArray⟩, .int .i64 (i : Int)], .int .i64 ((i + n : Nat) : Int), .bool true]) (by simp [results, Tryd.results17, go_sem, q0, q1, q2]) rfl (lone_yes HW.out rfl (toArray_list t) rfl (below_three hb _ _ _))

set_option maxHeartbeats 4000000 in
set_option maxRecDepth 100000 in
theorem one_sign (s : ByteArray) (i : Nat) (w : World) (hi : i < s.size) (hs : s.size ≤ 90000) (h1 : letU s[i] = false) (h2 : (s[i] == 45) = false) (h3 : digU s[i] = false) (h4 : (s[i] == 34) = false) : Calls Tryd.prog 17 #[.string s, .int .i64 (i : Int)] w (OneIs w i (lxWord (s.data.toList.drop i))) := by
  have hL : ∀ W, Calls Tryd.prog 26 #[.int .u8 (s[i].toNat : Int)] W fun e w' => e = .returned (.bool false) ∧ W = w' := fun W => by have := refLetter_any s[i].toNat W; rw [show letB (s[i].toNat : Int) = false from h1] at this; exact this
  have hD : ∀ W, Calls Tryd.prog 27 #[.int .u8 (s[i].toNat : Int)] W fun e w' => e = .returned (.bool false) ∧ W = w' := fun W => by have := refDigit_any s[i].toNat W; rw [show digB (s[i].toNat : Int) = false from h3] at this; exact this
  have e45 : ((s[i].toNat : Int) == 45) = (s[i] == 45) := by rw [Bool.eq_iff_iff]; simp [← UInt8.toNat_inj]; omega
  have e34 : ((s[i].toNat : Int) == 34) = (s[i] == 34) := by rw [Bool.eq_iff_iff]; simp [← UInt8.toNat_inj]; omega
  rw [h2] at e45
  rw [h4] at e34
  have HD := Lib.hid (drop_cons s i hi)
  have HW := Lib.hid (word_sign HD.out h1 (by rw [h2, h3]; rfl) h4)
  have q1 : IntKind.i64.wrap ((s.size : Int) - i) = (s.size : Int) - i := IntWalk.i64_in _ (by omega)
  clear h1 h2 h3 h4
  cases hdot : Lib.hasPrefix (s.data.toList.drop i) lxDots with
  | true =>
    have hl3 : i + 3 ≤ s.size := by
      have h := (List.isPrefixOf_iff_prefix.1 hdot).length_le
      rw [len_drop] at h
      have : lxDots.length = 3 := rfl
      omega
    have hx : ((s.extract i (i + 3)).toList == [46, 46, 46]) = true := ext_is s i 3 lxDots rfl true hdot
    have hge : decide ((3 : Int) ≤ (s.size : Int) - i) = true := decide_eq_true (by omega)
    have hsl := slice_two' s i (i + 3) (by omega) hl3 ((i : Int) + 3) (by omega)
    have HO := Lib.hid (show lxWord (s.data.toList.drop i) = some (5, lxDots, 3) by rw [HW.out]; unfold lxSign; rw [if_pos hdot])
    clear hdot
    generalize s.extract i (i + 3) = ex at *
    go_enter Tryd.func17, Tryd.ntmps17
    go_wp2_with fail
    refine (hL _).mono ?_
    rintro e w' ⟨rfl, rfl⟩
    go_wp2_with fail
    refine (hD _).mono ?_
    rintro e w' ⟨rfl, rfl⟩
    go_wp2_with fail
    exact bodyPost_ret (v := .tuple #[.agg #[.int .i64 5, .string ⟨#[46, 46, 46]⟩, .int .i64 (i : Int)], .int .i64 ((i : Int) + 3), .bool true]) (by simp [results, Tryd.results17, go_sem]) rfl (lone_yes HO.out rfl rfl (by omega) ((Below.refl _ w).alloc (Nat.le_refl _) _))
  | false =>
    have hx : ((s.extract i (i + 3)).toList == [46, 46, 46]) = false := ext_is s i 3 lxDots rfl false hdot
    have hk3 : decide ((3 : Int) ≤ (s.size : Int) - i) = false ∨ (decide ((3 : Int) ≤ (s.size : Int) - i) = true ∧ ∀ W, (Instr.slice 9 (.string s) (some (.int .i64 i)) (some (.int .i64 ((i : Int) + 3))) none).run Tryd.prog W = .ok (.string (s.extract i (i + 3))) W) := by
      by_cases g3 : i + 3 ≤ s.size
      · exact .inr ⟨decide_eq_true (by omega), slice_two' s i (i + 3) (by omega) g3 ((i : Int) + 3) (by omega)⟩
      · exact .inl (decide_eq_false (by omega))
    have HO := Lib.hid (show lxWord (s.data.toList.drop i) = if signsS.data.toList.contains s[i] then some (5, [s[i]], 1) else none by
      rw [HW.out]
      unfold lxSign
      rw [if_neg (by rw [hdot]; decide), HD.out])
    have hs1 := slice_two' s i (i + 1) (by omega) (by omega) ((i : Int) + 1) (by omega)
    have HE := Lib.hid (show (s.extract i (i + 1)).data.toList = [s[i]] by rw [lext_list, Nat.add_sub_cancel_left, HD.out]; rfl)
    clear hdot
    generalize s.extract i (i + 3) = ex at *
    generalize s.extract i (i + 1) = e1 at *
    rcases hk3 with hge | ⟨hge, hsl⟩
    all_goals
      go_enter Tryd.func17, Tryd.ntmps17
      go_wp2_with fail
      refine (hL _).mono ?_
      rintro e w' ⟨rfl, rfl⟩
      go_wp2_with fail
      refine (hD _).mono ?_
      rintro e w' ⟨rfl, rfl⟩
      go_wp2_with fail
      go_loop [14] (fun v14 => ∃ m : Nat, v14 = .int .i64 (m : Nat) ∧ m ≤ 13 ∧ Hid (signsS.data.toList.contains s[i] = (signsS.data.toList.drop m).contains s[i])) (fun v14 => 13 - (intOf v14).toNat)
      case atStart => exact ⟨0, rfl, by omega, Lib.hid rfl⟩
      case round =>
        obtain ⟨m, rfl, hm, HM⟩ := hrel
        by_cases hm13 : m < 13
        · have hd1 : decide ((m : Int) < 13) = true := decide_eq_true (by omega)
          have hmm : m = 0 ∨ m = 1 ∨ m = 2 ∨ m = 3 ∨ m = 4 ∨ m = 5 ∨ m = 6 ∨ m = 7 ∨ m = 8 ∨ m = 9 ∨ m = 10 ∨ m = 11 ∨ m = 12 := by omega
          have hsz : signsS.size = 13 := rfl
          have hms : m < signsS.size := by omega
          have HC := Lib.hid (show (signsS.data.toList.drop m).contains s[i] = (s[i] == signsS[m] || (signsS.data.toList.drop (m + 1)).contains s[i]) by rw [drop_cons signsS m hms, List.contains_cons])
          cases hq : ((signsS[m].toNat : Int) == (s[i].toNat : Int)) with
          | true =>
            have HQ := Lib.hid (show lxWord (s.data.toList.drop i) = some (5, [s[i]], 1) by
              have he : (s[i] == signsS[m]) = true := by rw [beq_iff_eq, ← UInt8.toNat_inj]; rw [beq_iff_eq] at hq; omega
              rw [HO.out, HM.out, HC.out, he, Bool.true_or]; rfl)
            unfold signsS at hq
            go_wp2_with fail
            exact bodyPost_ret (v := .tuple #[.agg #[.int .i64 5, .string e1, .int .i64 (i : Int)], .int .i64 ((i : Int) + 1), .bool true]) (by simp [results, Tryd.results17, go_sem]) rfl (lone_yes HQ.out rfl HE.out (by omega) ((Below.refl _ w).alloc (Nat.le_refl _) _))
          | false =>
            have HQ := Lib.hid (show signsS.data.toList.contains s[i] = (signsS.data.toList.drop (m + 1)).contains s[i] by
              have he : (s[i] == signsS[m]) = false := by rw [beq_eq_false_iff_ne, ne_eq, ← UInt8.toNat_inj]; rw [beq_eq_false_iff_ne] at hq; omega
              rw [HM.out, HC.out, he, Bool.false_or])
            unfold signsS at hq
            go_wp2_with fail
            go_round
            case rel => exact ⟨m + 1, by go_num, by omega, HQ⟩
            case measure => simp [intOf]; omega
        · have hd1 : decide ((m : Int) < 13) = false := decide_eq_false (by omega)
          have HQ := Lib.hid (show lxWord (s.data.toList.drop i) = none by
            obtain rfl : m = 13 := by omega
            rw [HO.out, HM.out]
            rfl)
          go_wp2_with fail
          exact bodyPost_ret (v := .tuple #[.agg #[.int .i64 0, .string ⟨#[]⟩, .int .i64 0], .int .i64 (i : Int), .bool false]) (by simp [results, Tryd.results17, go_sem]) rfl (lone_no HQ.out ((Below.refl _ w).alloc (Nat.le_refl _) _))

theorem refOne_any (s : ByteArray) (i : Nat) (w : World) (hi : i < s.size) (hs : s.size ≤ 90000) : Calls Tryd.prog 17 #[.string s, .int .i64 (i : Int)] w (OneIs w i (lxWord (s.data.toList.drop i))) := by
  cases h1 : letU s[i] with
  | true => exact one_name s i w hi hs h1
  | false =>
    cases h2 : (s[i] == 45) with
    | true => exact one_num s i w hi hs h1 (.inl h2)
    | false =>
      cases h3 : digU s[i] with
      | true => exact one_num s i w hi hs h1 (.inr ⟨h2, h3⟩)
      | false =>
        cases h4 : (s[i] == 34) with
        | true => exact one_text s i w hi hs h1 h2 h3 h4
        | false => exact one_sign s i w hi hs h1 h2 h3 h4

end Go.Proofs.YtakmkhkbeabgcaaDoor

/-
  What the document's lex answers of a whole text.
-/
namespace Go.Proofs.YtakmkhkbeabgcaaDoor
open Go.RowKit

/-- What the document's All answers: the tokens lie in a row of its own. -/
def OLexIs (w : World) (r : List Tk × Nat × Nat) (e : Ending) (w' : World) : Prop :=
  ∃ v, e = .returned (.tuple #[v, .int .i64 r.2.1, .int .i64 r.2.2]) ∧ w'.ownsRow w.heap.size 36 3 v r.1.length (tkCells r.1) ∧ Below w.heap.size w w'
theorem olex_no {w w' : World} {r : List Tk × Nat × Nat} {a c : Nat} (h : r = ([], a, c)) (hb : Below w.heap.size w w') : OLexIs w r (.returned (.tuple #[.slice none 0 0, .int .i64 a, .int .i64 c])) w' := by
  subst h
  exact ⟨_, rfl, World.ownsRow_nil _ _ _ _, hb⟩
theorem infoT : ∃ i, Tryd.prog.info? 36 = some i ∧ i.zero = some (.agg #[.int .i64 0, .string ⟨#[]⟩, .int .i64 0]) ∧ i.size = 3 ∧ i.bytes = 32 :=
  info_parts (by kernel_rfl)
def OLexRel (s : ByteArray) (w : World) (v5 v6 : Value) (wr : World) : Prop :=
  ∃ (i f : Nat) (ts : List Tk), v6 = .int .i64 i ∧ i ≤ s.size ∧ s.size < f + i ∧ ts.length ≤ i ∧ wr.ownsRow w.heap.size 36 3 v5 ts.length (tkCells ts) ∧ Below w.heap.size w wr ∧ lxGo f i (s.data.toList.drop i) ts = lexP s.data.toList
def noEnd (b : UInt8) : Bool := !lxEnd b
theorem lxRem_tw (l : List UInt8) : lxRem l = (l.takeWhile noEnd).length := rfl

set_option maxHeartbeats 4000000 in
set_option maxRecDepth 100000 in
theorem refAll_any (s : ByteArray) (w : World) (hs : s.size ≤ 1000000000) : Calls Tryd.prog 11 #[.string s] w (OLexIs w (lexP s.data.toList)) := by
  obtain ⟨i0, hi, hz0, hz1, hz2⟩ := infoT
  have HI0 := Lib.hid hi
  have HZ0 := Lib.hid hz0
  have HZ1 := Lib.hid hz1
  have HZ2 := Lib.hid hz2
  clear hi hz0 hz1 hz2
  by_cases hbig : 8000 < s.size
  · have HY := Lib.hid (show lexP s.data.toList = ([], 0, 3) by unfold lexP; rw [if_pos (show 8000 < s.data.toList.length from hbig)])
    have hd : decide ((8000 : Int) < (s.size : Int)) = true := decide_eq_true (by omega)
    go_enter Tryd.func11, Tryd.ntmps11
    go_wp2_with fail
    refine bodyPost_ret (v := .tuple #[.slice none 0 0, .int .i64 (0 : Nat), .int .i64 (3 : Nat)]) (by simp [results, Tryd.results11, go_sem]) rfl (olex_no HY.out (Below.refl _ _))
  · have hd : decide ((8000 : Int) < (s.size : Int)) = false := decide_eq_false (by omega)
    have HP := Lib.hid (show lxGo (s.size + 1) 0 s.data.toList [] = lexP s.data.toList by unfold lexP; rw [if_neg (show ¬ 8000 < s.data.toList.length from hbig)]; rfl)
    go_enter Tryd.func11, Tryd.ntmps11
    go_wp2_with fail
    go_loopw [5, 6, 7, 8, 9] (fun v5 v6 _ _ _ wr => OLexRel s w v5 v6 wr) (fun _ v6 _ _ _ _ => s.size - (intOf v6).toNat)
    case atStart => exact ⟨0, s.size + 1, [], rfl, Nat.zero_le _, by omega, by simp, World.ownsRow_nil _ _ _ _, Below.refl _ _, HP.out⟩
    case round =>
      obtain ⟨i, f, ts, rfl, his, hf, hts, hown, hbw, hres⟩ := hrel
      have HR := Lib.hid hres
      have hsz := hbw.size
      clear hres HP
      by_cases hil : i < s.size
      · have hd1 : decide ((i : Int) < s.size) = true := decide_eq_true (by omega)
        obtain ⟨f, rfl⟩ : ∃ f', f = f' + 1 := ⟨f - 1, by omega⟩
        have HD := Lib.hid (drop_cons s i hil)
        have hq : ∀ n : Nat, n < 256 → ((s[i].toNat : Int) == (n : Int)) = (s[i] == UInt8.ofNat n) := fun n hn => by
          rw [Bool.eq_iff_iff, beq_iff_eq, beq_iff_eq, ← UInt8.toNat_inj, UInt8.toNat_ofNat_of_lt' (by simpa using hn)]
          omega
        have e32 : ((s[i].toNat : Int) == 32) = (s[i] == 32) := hq 32 (by decide)
        have e9 : ((s[i].toNat : Int) == 9) = (s[i] == 9) := hq 9 (by decide)
        have e10 : ((s[i].toNat : Int) == 10) = (s[i] == 10) := hq 10 (by decide)
        have e13 : ((s[i].toNat : Int) == 13) = (s[i] == 13) := hq 13 (by decide)
        have e44 : ((s[i].toNat : Int) == 44) = (s[i] == 44) := hq 44 (by decide)
        have e35 : ((s[i].toNat : Int) == 35) = (s[i] == 35) := hq 35 (by decide)
        clear hq
        have hB : lxBlank s[i] = (((s[i].toNat : Int) == 32) || ((s[i].toNat : Int) == 9) || ((s[i].toNat : Int) == 10) || ((s[i].toNat : Int) == 13) || ((s[i].toNat : Int) == 44)) := by rw [e32, e9, e10, e13, e44]; rfl
        clear e32 e9 e10 e13 e44
        cases hbl : lxBlank s[i] with
        | true =>
          have HY := Lib.hid (show lxGo f (i + 1) (s.data.toList.drop (i + 1)) ts = lexP s.data.toList by rw [← HR.out, HD.out, lxGo_blank _ _ _ _ _ hbl])
          rw [hbl] at hB
          have hk : ((s[i].toNat : Int) == 32) = true ∨ (((s[i].toNat : Int) == 32) = false ∧ ((s[i].toNat : Int) == 9) = true) ∨ (((s[i].toNat : Int) == 32) = false ∧ ((s[i].toNat : Int) == 9) = false ∧ ((s[i].toNat : Int) == 10) = true) ∨ (((s[i].toNat : Int) == 32) = false ∧ ((s[i].toNat : Int) == 9) = false ∧ ((s[i].toNat : Int) == 10) = false ∧ ((s[i].toNat : Int) == 13) = true) ∨ (((s[i].toNat : Int) == 32) = false ∧ ((s[i].toNat : Int) == 9) = false ∧ ((s[i].toNat : Int) == 10) = false ∧ ((s[i].toNat : Int) == 13) = false ∧ ((s[i].toNat : Int) == 44) = true) := by
            revert hB
            cases ((s[i].toNat : Int) == 32) <;> cases ((s[i].toNat : Int) == 9) <;> cases ((s[i].toNat : Int) == 10) <;> cases ((s[i].toNat : Int) == 13) <;> cases ((s[i].toNat : Int) == 44) <;> decide
          clear hbl hB e35
          rcases hk with k1 | ⟨k1, k2⟩ | ⟨k1, k2, k3⟩ | ⟨k1, k2, k3, k4⟩ | ⟨k1, k2, k3, k4, k5⟩
          all_goals
            go_wp2_with fail
            go_roundw
            case rel => exact ⟨i + 1, f, ts, by go_num, by omega, by omega, by omega, hown, hbw, HY.out⟩
            case measure => simp [intOf]; omega
        | false =>
          have HBL := Lib.hid hbl
          rw [hbl] at hB
          have hB' := hB.symm
          simp only [Bool.or_eq_false_iff] at hB'
          obtain ⟨⟨⟨⟨k1, k2⟩, k3⟩, k4⟩, k5⟩ := hB'
          clear hbl hB
          cases h35 : (s[i] == 35) with
          | true =>
            rw [h35] at e35
            have HN := Lib.hid (show lxGo f (i + lxRem (s.data.toList.drop i)) (s.data.toList.drop (i + lxRem (s.data.toList.drop i))) ts = lexP s.data.toList by
              rw [← HR.out, ← List.drop_drop]
              generalize hdd : s.data.toList.drop i = d
              rw [HD.out] at hdd
              subst hdd
              rw [lxGo_rem _ _ _ _ _ HBL.out h35])
            have HP0 := Lib.hid (show 0 < lxRem (s.data.toList.drop i) by rw [HD.out]; exact lxRem_pos h35)
            clear h35
            go_wp2_with fail
            go_loop [6] (fun v6 => ∃ k j : Nat, v6 = .int .i64 (k : Nat) ∧ i ≤ k ∧ k ≤ s.size ∧ Hid (k = i + j) ∧ Hid (((s.data.toList.drop i).takeWhile noEnd).length = j + ((s.data.toList.drop k).takeWhile noEnd).length)) (fun v6 => s.size - (intOf v6).toNat)
            case atStart => exact ⟨i, 0, rfl, Nat.le_refl _, by omega, Lib.hid rfl, Lib.hid (Nat.zero_add _).symm⟩
            case round =>
              obtain ⟨k, j, rfl, hk1, hk2, HK, HJ⟩ := hrel
              clear k1 k2 k3 k4 k5 e35 hd1
              by_cases hkl : k < s.size
              · have hd1 : decide ((k : Int) < s.size) = true := decide_eq_true (by omega)
                have hq : ∀ n : Nat, n < 256 → ((s[k].toNat : Int) != (n : Int)) = (s[k] != UInt8.ofNat n) := fun n hn => by
                  rw [Bool.eq_iff_iff, bne_iff_ne, bne_iff_ne, ne_eq, ne_eq, ← UInt8.toNat_inj, UInt8.toNat_ofNat_of_lt' (by simpa using hn)]
                  omega
                have hE : noEnd s[k] = (((s[k].toNat : Int) != 10) && ((s[k].toNat : Int) != 13)) := by
                  rw [show ((s[k].toNat : Int) != 10) = _ from hq 10 (by decide), show ((s[k].toNat : Int) != 13) = _ from hq 13 (by decide)]
                  unfold noEnd lxEnd
                  rw [Bool.not_or]
                  rfl
                clear hq
                cases he : noEnd s[k] with
                | true =>
                  have HX := Lib.hid (tw_next noEnd hkl he)
                  rw [he] at hE
                  have hE' := hE.symm
                  rw [Bool.and_eq_true] at hE'
                  obtain ⟨m1, m2⟩ := hE'
                  clear he hE
                  go_wp2_with fail
                  go_round
                  case rel => exact ⟨k + 1, j + 1, by go_num, by omega, by omega, Lib.hid (by have := HK.out; omega), Lib.hid (by rw [HJ.out, HX.out]; omega)⟩
                  case measure => simp [intOf]; omega
                | false =>
                  have HX := Lib.hid (show lxRem (s.data.toList.drop i) = j by rw [lxRem_tw, HJ.out, tw_stop noEnd hkl he]; rfl)
                  rw [he] at hE
                  have mm : ((s[k].toNat : Int) != 10) = false ∨ (((s[k].toNat : Int) != 10) = true ∧ ((s[k].toNat : Int) != 13) = false) := by
                    revert hE
                    cases ((s[k].toNat : Int) != 10) <;> cases ((s[k].toNat : Int) != 13) <;> decide
                  clear he hE
                  have hjj : i < k := by have h1 := HP0.out; rw [HX.out] at h1; have := HK.out; omega
                  rcases mm with m1 | ⟨m1, m2⟩
                  all_goals
                    go_wp2_with fail
                    go_roundw
                    case rel => exact ⟨k, f, ts, rfl, by omega, by omega, by omega, hown, hbw, by have h := HN.out; rw [HX.out, ← HK.out] at h; exact h⟩
                    case measure => simp [intOf]; omega
              · have hd1 : decide ((k : Int) < s.size) = false := decide_eq_false (by omega)
                have HX := Lib.hid (show lxRem (s.data.toList.drop i) = j by rw [lxRem_tw, HJ.out, tw_end noEnd hkl]; rfl)
                have hjj : i < k := by have h1 := HP0.out; rw [HX.out] at h1; have := HK.out; omega
                go_wp2_with fail
                go_roundw
                case rel => exact ⟨k, f, ts, rfl, by omega, by omega, by omega, hown, hbw, by have h := HN.out; rw [HX.out, ← HK.out] at h; exact h⟩
                case measure => simp [intOf]; omega
          | false =>
            rw [h35] at e35
            have hW := fun W => refOne_any s i W hil (by omega)
            cases hw : lxWord (s.data.toList.drop i) with
            | none =>
              rw [hw] at hW
              have HY := Lib.hid (show lexP s.data.toList = ([], i, 2) by
                rw [HD.out] at hw
                rw [← HR.out, HD.out, lxGo_none _ _ _ _ _ HBL.out h35 hw])
              clear h35 hw
              go_wp2_with fail
              refine (hW _).mono ?_
              rintro e w2 ⟨b2, ka, ta, ca, na, rfl⟩
              go_wp2_with fail
              refine bodyPost_ret (v := .tuple #[.slice none 0 0, .int .i64 (i : Nat), .int .i64 (2 : Nat)]) (by simp [results, Tryd.results11, go_sem]) rfl (olex_no HY.out ((hbw.trans (b2.mono hsz)).alloc (by have := b2.size; omega) _))
            | some o =>
              obtain ⟨k, t, n⟩ := o
              rw [hw] at hW
              have hle := lxWord_le hw
              rw [len_drop] at hle
              have HY := Lib.hid (show lxGo f (i + n) (s.data.toList.drop (i + n)) (ts ++ [⟨k, t, i⟩]) = lexP s.data.toList by
                rw [← HR.out, ← List.drop_drop]
                exact (lxGo_word HD.out HBL.out h35 hw).symm)
              clear h35 hw
              go_wp2_with fail
              refine (hW _).mono ?_
              rintro e w2 ⟨b2, rfl⟩
              have hown2 := own_below hown b2
              have hb2 := hbw.trans (b2.mono hsz)
              have hz2 : w.heap.size ≤ w2.heap.size := hb2.size
              go_wp2_with (at_builtin; refine wpList_append_own _ rfl _ _ 27 rfl w.heap.size 36 i0 (.agg #[.int .i64 0, .string ⟨#[]⟩, .int .i64 0]) 3 32 Tryd.underlying27 HI0.out HZ0.out HZ1.out HZ2.out rfl (by decide) _ _ _ rfl ((hown2.alloc _).alloc _) ⟨w2.heap.size + 1, 0, none⟩ 1 1 [.int .i64 k, .string ⟨t.toArray⟩, .int .i64 i] rfl rfl ?c1 ?c2 ?c3 ?c4 ?c5 ?_)
              case c1 => exact fun j u hj => by have := cell_three_new (w2.alloc (.cells #[.int .i64 k, .string ⟨t.toArray⟩, .int .i64 i] 36)) (.int .i64 k) (.string ⟨t.toArray⟩) (.int .i64 i) 36 j u hj; simpa using this
              case c2 => intro u hu; simp at hu; rcases hu with rfl | rfl | rfl <;> rfl
              case c3 => unfold maxLen; omega
              case c4 => omega
              case c5 => simp; omega
              intro v' w4 hown' hgrow _
              have hbw4 : Below w.heap.size w w4 := ((hb2.alloc (by omega) _).alloc (by simp; omega) _).grown hgrow (by simp; omega) (fun k hk => by have := (hown2.lt k hk).1; omega)
              have HOWN := Lib.hid hown'
              clear hown' hgrow
              go_wp2_with fail
              go_roundw
              case rel =>
                refine ⟨i + n, f, ts ++ [⟨k, t, i⟩], by go_num, by omega, by omega, by simp; omega, ?_, hbw4, HY.out⟩
                rw [tkCells_snoc, List.length_append]
                exact HOWN.out
              case measure => simp [intOf]; omega
      · have hd1 : decide ((i : Int) < s.size) = false := decide_eq_false (by omega)
        have HY := Lib.hid (show lexP s.data.toList = (ts, 0, 0) by rw [← HR.out, drop_end s i hil, lxGo_nil])
        go_wp2_with fail
        refine bodyPost_ret (v := .tuple #[_, .int .i64 (0 : Nat), .int .i64 (0 : Nat)]) (by simp [results, Tryd.results11, go_sem]; rfl) rfl ?_
        rw [HY.out]
        exact ⟨_, rfl, hown, hbw⟩

end Go.Proofs.YtakmkhkbeabgcaaDoor

/-
  LexAll: its walk.
-/
namespace Go.Proofs.YtakmkhkbeabgcaaDoor
open Go.RowKit

theorem tkCells_at : ∀ (ts : List Tk) (j : Nat) (t : Tk), ts[j]? = some t → (tkCells ts)[j * 3]? = some (.int .i64 t.k) ∧ (tkCells ts)[j * 3 + 1]? = some (.string ⟨t.s.toArray⟩) ∧ (tkCells ts)[j * 3 + 2]? = some (.int .i64 t.at_)
  | [], _, _, h => by simp at h
  | a :: ts, 0, t, h => by
    simp only [List.getElem?_cons_zero, Option.some.injEq] at h
    subst h
    exact ⟨rfl, rfl, rfl⟩
  | a :: ts, j + 1, t, h => by
    have := tkCells_at ts j t (by simpa using h)
    have e : tkCells (a :: ts) = [.int .i64 a.k, .string ⟨a.s.toArray⟩, .int .i64 a.at_] ++ tkCells ts := rfl
    rw [e, show (j + 1) * 3 = 3 + j * 3 by omega]
    refine ⟨?_, ?_, ?_⟩
    · rw [List.getElem?_append_right (by simp)]; simpa using this.1
    · rw [List.getElem?_append_right (by simp; omega)]
      rw [show 3 + j * 3 + 1 - [Value.int .i64 a.k, .string ⟨a.s.toArray⟩, .int .i64 a.at_].length = j * 3 + 1 by simp; omega]
      exact this.2.1
    · rw [List.getElem?_append_right (by simp; omega)]
      rw [show 3 + j * 3 + 2 - [Value.int .i64 a.k, .string ⟨a.s.toArray⟩, .int .i64 a.at_].length = j * 3 + 2 by simp; omega]
      exact this.2.2
/-- A row of tokens, as a call finds it. -/
def TkAt (w : World) (a : Option Addr) (ts : List Tk) : Prop := 0 < ts.length → ∃ g, a = some ⟨g, 0, none⟩ ∧ ∀ j u, (tkCells ts)[j]? = some u → w.cell? ⟨g, j, none⟩ = some u
theorem tkAt_of {w : World} {B : Nat} {T : TypeId} {v : Value} {ts : List Tk} (h : w.ownsRow B T 3 v ts.length (tkCells ts)) : ∃ a cap, v = .slice a ts.length cap ∧ ts.length ≤ cap ∧ TkAt w a ts ∧ ∀ w', Below w.heap.size w w' → TkAt w' a ts := by
  rcases h.2 with ⟨hv, h0⟩ | ⟨g, cap, cur, hv, hB, hg, hcap, _⟩
  · exact ⟨none, 0, by rw [hv, h0], by omega, fun h' => absurd h' (by omega), fun _ _ h' => absurd h' (by omega)⟩
  · refine ⟨some ⟨g, 0, none⟩, cap, hv, hcap, fun _ => ⟨g, rfl, fun j u hj => ?_⟩, fun w' hb _ => ⟨g, rfl, fun j u hj => ?_⟩⟩
    · have := h.cells (g := g) (by rw [hv]; rfl) j u hj
      have e : (⟨g, 0, none⟩ : Addr).add j = ⟨g, j, none⟩ := by cases j <;> simp [Addr.add]
      rwa [e] at this
    · have := (own_below h hb).cells (g := g) (by rw [hv]; rfl) j u hj
      have e : (⟨g, 0, none⟩ : Addr).add j = ⟨g, j, none⟩ := by cases j <;> simp [Addr.add]
      rwa [e] at this

theorem lxGo_len : ∀ (f a : Nat) (l : List UInt8) (acc : List Tk), (lxGo f a l acc).1.length ≤ acc.length + l.length
  | 0, _, _, _ => Nat.le_add_right _ _
  | _ + 1, _, [], _ => Nat.le_add_right _ _
  | f + 1, a, b :: r, acc => by
    cases hb : lxBlank b with
    | true =>
      rw [lxGo_blank _ _ _ _ _ hb]
      have := lxGo_len f (a + 1) r acc
      rw [List.length_cons]
      omega
    | false =>
      cases h35 : (b == 35) with
      | true =>
        rw [lxGo_rem _ _ _ _ _ hb h35]
        have := lxGo_len f (a + lxRem (b :: r)) ((b :: r).drop (lxRem (b :: r))) acc
        rw [List.length_drop] at this
        omega
      | false =>
        cases hw : lxWord (b :: r) with
        | none =>
          rw [lxGo_none _ _ _ _ _ hb h35 hw]
          exact Nat.zero_le _
        | some o =>
          obtain ⟨k, s, m⟩ := o
          rw [lxGo_some _ _ _ _ _ hb h35 hw]
          have hp := lxWord_le hw
          have := lxGo_len f (a + m) ((b :: r).drop m) (acc ++ [⟨k, s, a⟩])
          rw [List.length_drop, List.length_append, List.length_singleton] at this
          omega
theorem lexP_len (l : List UInt8) : (lexP l).1.length ≤ 8000 := by
  unfold lexP
  split
  · exact Nat.zero_le _
  · have := lxGo_len (l.length + 1) 0 l []
    simp only [List.length_nil] at this
    omega

set_option maxHeartbeats 4000000 in
set_option maxRecDepth 100000 in
theorem lsame_true (ts : List Tk) (a b : Option Addr) (ca cb : Nat) (w : World) (hn : ts.length ≤ 9000) (hA : TkAt w a ts) (hB : TkAt w b ts) : Calls Tryd.prog 12 #[.slice a ts.length ca, .slice b ts.length cb] w (TrueBelow w) := by
  have HA := Lib.hid hA
  have HB := Lib.hid hB
  obtain ⟨n, hnn⟩ : ∃ n, n = ts.length := ⟨_, rfl⟩
  rw [← hnn] at hn ⊢
  have HN := Lib.hid hnn
  clear hA hB hnn
  go_enter Tryd.func12, Tryd.ntmps12
  go_wp2_with fail
  go_loopw [5] (fun v5 wr => ∃ j : Nat, v5 = .int .i64 (j : Nat) ∧ j ≤ n ∧ Below w.heap.size w wr ∧ Hid (TkAt wr a ts) ∧ Hid (TkAt wr b ts)) (fun v5 _ => n - (intOf v5).toNat)
  case atStart => exact ⟨0, rfl, Nat.zero_le _, Below.refl _ _, HA, HB⟩
  case round =>
    obtain ⟨j, rfl, hj, hbw, HA, HB⟩ := hrel
    by_cases hlt : j < n
    · have hd1 : decide ((j : Int) < n) = true := decide_eq_true (by omega)
      have hd2 : decide (j < n) = true := decide_eq_true hlt
      have HA2 := HA
      have HB2 := HB
      obtain ⟨ga, rfl, cA⟩ := HA.out (by have := HN.out; omega)
      obtain ⟨gb, rfl, cB⟩ := HB.out (by have := HN.out; omega)
      have hj' : j < ts.length := by have := HN.out; omega
      obtain ⟨k0, k1, k2⟩ := tkCells_at ts j ts[j] (List.getElem?_eq_getElem hj')
      have a0 := cA _ _ k0
      have a1 := cA _ _ k1
      have a2 := cA _ _ k2
      have b0 := cB _ _ k0
      have b1 := cB _ _ k1
      have b2 := cB _ _ k2
      clear cA cB k0 k1 k2
      generalize ts[j].k = x0 at *
      generalize (⟨(ts[j].s).toArray⟩ : ByteArray) = x1 at *
      generalize ts[j].at_ = x2 at *
      go_upto_region 6 with fail
      go_quiet (fail)
      go_wp2_with fail
      go_roundw
      case rel => exact ⟨j + 1, by go_num, by omega, ⟨hbw.os, hbw.tape, hbw.output, hbw.size, hbw.block⟩, Lib.hid HA2.out, Lib.hid HB2.out⟩
      case measure => simp [intOf]; omega
    · have hd1 : decide ((j : Int) < n) = false := decide_eq_false (by omega)
      have hd2 : decide (j < n) = false := decide_eq_false hlt
      go_wp2_with fail
      go_ret
      exact ⟨rfl, hbw⟩

set_option maxHeartbeats 2000000 in
set_option maxRecDepth 100000 in
theorem lexAll_walk (s : ByteArray) (w : World) : Calls Tryd.prog 3 #[.string s] w (TrueBelow w) := by
  by_cases hbig : 9000 < s.size
  · have hd : decide ((9000 : Int) < s.size) = true := decide_eq_true (by omega)
    go_enter Tryd.func3, Tryd.ntmps3
    go_wp2_with fail
    refine (lxAwake _).mono ?_
    rintro e w1 ⟨rfl, b1⟩
    go_wp2_with fail
    go_ret
    exact ⟨rfl, b1⟩
  · have hd : decide ((9000 : Int) < s.size) = false := decide_eq_false (by omega)
    have hA := fun W => lexAll_any s W (by omega)
    have hB := fun W => refAll_any s W (by omega)
    have HL := Lib.hid (lexP_len s.data.toList)
    generalize lexP s.data.toList = r at *
    obtain ⟨ts, pa, pc⟩ := r
    have hl : ts.length ≤ 8000 := HL.out
    go_enter Tryd.func3, Tryd.ntmps3
    go_wp2_with fail
    refine (hA _).mono ?_
    rintro e w1 ⟨v1, rfl, o1, b1⟩
    obtain ⟨a1, c1, rfl, hc1, _, hT1⟩ := tkAt_of o1
    go_wp2_with fail
    refine (hB _).mono ?_
    rintro e w2 ⟨v2, rfl, o2, b2⟩
    obtain ⟨a2, c2, rfl, hc2, hT2, _⟩ := tkAt_of o2
    have hS := lsame_true ts a1 a2 c1 c2 w2 (by omega) (hT1 w2 b2) hT2
    clear o1 o2 hT1 hT2 hA hB
    go_wp2_with fail
    refine hS.mono ?_
    rintro e w3 ⟨rfl, b3⟩
    go_wp2_with fail
    refine (lxAwake _).mono ?_
    rintro e w4 ⟨rfl, b4⟩
    go_wp2_with fail
    go_ret
    have h1 := b1.size
    have h2 := b2.size
    have h3 := b3.size
    exact ⟨rfl, ((b1.trans (b2.mono (by omega))).trans (b3.mono (by omega))).trans (b4.mono (by omega))⟩

end Go.Proofs.YtakmkhkbeabgcaaDoor

/-
  LexBlanks: what is laid anew, token by token, and what it reads as.
-/
namespace Go.Proofs.YtakmkhkbeabgcaaDoor
open Go.RowKit

def toOf (S : List UInt8) (ts : List Tk) (i : Nat) : Nat :=
  match ts[i + 1]? with
  | some u => u.at_
  | none => S.length
/-- What stands at a token's place, up to the next one's. -/
def PieceAt (S : List UInt8) (t : Tk) (te n : Nat) : Prop :=
  t.at_ + n ≤ te ∧ te ≤ S.length ∧ lxWord (S.drop t.at_) = some (t.k, t.s, n) ∧ startOk (S.drop t.at_) ∧ gapOk false ((S.drop (t.at_ + n)).take (te - (t.at_ + n))) = true
theorem sg_at {S : List UInt8} : ∀ (ts : List Tk) (a i : Nat) (t : Tk), Sg S a ts → ts[i]? = some t → ∃ n, PieceAt S t (toOf S ts i) n
  | [], _, _, _, _, h => by simp at h
  | u :: ts, a, 0, t, hs, h => by
    simp only [List.getElem?_cons_zero, Option.some.injEq] at h
    subst h
    obtain ⟨n, h1, h2, h3, h4, h5, h6⟩ := hs
    refine ⟨n, ?_⟩
    cases ts with
    | nil =>
      obtain ⟨g1, g2⟩ := h6
      refine ⟨g2, Nat.le_refl _, h4, h5, ?_⟩
      show gapOk false (List.take (S.length - _) _) = true
      rw [List.take_of_length_le (by rw [List.length_drop]; exact Nat.le_refl _)]
      exact g1
    | cons v ts =>
      obtain ⟨m, g1, g2, g3, g4, g5, g6⟩ := h6
      exact ⟨g1, by show v.at_ ≤ _; omega, h4, h5, g3⟩
  | u :: ts, a, i + 1, t, hs, h => by
    obtain ⟨n, h1, h2, h3, h4, h5, h6⟩ := hs
    have := sg_at ts _ i t h6 (by simpa using h)
    have e : toOf S (u :: ts) (i + 1) = toOf S ts i := rfl
    rw [e]
    exact this
theorem sep_gap {g : List UInt8} (hg : gapOk false g = true) (Y : List UInt8) : sepOk (g ++ 10 :: Y) := by
  intro c hc
  have hb : lxBlank c = true ∨ c = 35 := by
    cases g with
    | nil => simp at hc; subst hc; exact .inl (by decide)
    | cons b g =>
      simp at hc
      subst hc
      rw [gapOk] at hg
      split at hg
      · rename_i h; exact .inl h
      · split at hg
        · rename_i h; exact .inr (beq_iff_eq.1 h)
        · cases hg
  rcases hb with hb | rfl
  · unfold lxBlank at hb
    simp only [Bool.or_eq_true, beq_iff_eq] at hb
    rcases hb with (((rfl | rfl) | rfl) | rfl) | rfl <;> exact ⟨by decide, by decide⟩
  · exact ⟨by decide, by decide⟩
theorem piece_step {S : List UInt8} {t : Tk} {n te m : Nat} (h : PieceAt S t te n) (hm : m ≤ te - t.at_) (hn : n ≤ m) (a : Nat) (acc : List Tk) (Y : List UInt8) : lxG a ((S.drop t.at_).take m ++ 10 :: Y) acc = lxG (a + m + 1) Y (acc ++ [⟨t.k, t.s, a⟩]) := by
  obtain ⟨h1, h2, hw, hs, hg⟩ := h
  have hle := lxWord_le hw
  have hsp : (S.drop t.at_).take m = (S.drop t.at_).take n ++ (S.drop (t.at_ + n)).take (m - n) := by
    rw [← List.drop_drop]
    have : m = n + (m - n) := by omega
    conv => lhs; rw [this, List.take_add]
  have hg' : gapOk false ((S.drop (t.at_ + n)).take (m - n)) = true := by
    refine gap_pre _ ((S.drop (t.at_ + n)).take (te - (t.at_ + n)) |>.drop (m - n)) _ ?_
    have e : (S.drop (t.at_ + n)).take (m - n) = ((S.drop (t.at_ + n)).take (te - (t.at_ + n))).take (m - n) := by
      rw [List.take_take]; congr 1; omega
    rw [e, List.take_append_drop]
    exact hg
  have hgl : ((S.drop (t.at_ + n)).take (m - n)).length = m - n := by rw [List.length_take, List.length_drop]; omega
  generalize (S.drop (t.at_ + n)).take (m - n) = g at *
  rw [hsp, List.append_assoc]
  have hws := word_same hw _ (sep_gap hg' Y)
  obtain ⟨b, r, hbr, hb1, hb2⟩ := hs
  have hwl : ((S.drop t.at_).take n).length = n := by rw [List.length_take]; omega
  obtain ⟨q, hq⟩ : ∃ q, (S.drop t.at_).take n = b :: q := by
    rw [hbr]
    obtain ⟨n', rfl⟩ : ∃ n', n = n' + 1 := ⟨n - 1, by omega⟩
    exact ⟨r.take n', List.take_succ_cons⟩
  have hd : ((S.drop t.at_).take n ++ (g ++ 10 :: Y)).drop n = g ++ 10 :: Y := List.drop_left' hwl
  rw [hq, List.cons_append] at hws hd ⊢
  rw [lxG_some _ _ _ _ hb1 hb2 hws, hd, lxG_gap _ g _ _ Y (Nat.le_refl _) hg', hgl]
  congr 1
  omega
theorem strip_ok {l : List UInt8} {k n m : Nat} {s : List UInt8} {c : UInt8} (hw : lxWord l = some (k, s, n)) (hk : k ≠ 4) (hc : l[m]? = some c) (hs : stpU c = true) : n ≤ m := by
  rcases Nat.lt_or_ge m n with h | h
  · have : c ∈ l.take n := by
      refine List.mem_of_getElem? (i := m) ?_
      rw [List.getElem?_take_of_lt h]
      exact hc
    rw [word_tail hw hk c this] at hs
    cases hs
  · exact h
/-- Bytes that say nothing, whatever stands behind them. -/
def Quiet (g : List UInt8) : Prop := ∀ (a : Nat) (Y : List UInt8) (acc : List Tk), lxG a (g ++ Y) acc = lxG (a + g.length) Y acc
theorem quiet0 : Quiet [32] := fun a Y acc => lxG_blank _ _ _ _ (by decide)
theorem quiet1 : Quiet [44] := fun a Y acc => lxG_blank _ _ _ _ (by decide)
theorem quiet2 : Quiet [10] := fun a Y acc => lxG_blank _ _ _ _ (by decide)
theorem quiet3 : Quiet [35, 32, 119, 111, 114, 100, 115, 32, 34, 10] := fun a Y acc => by
  have := lxG_gap 9 [35, 32, 119, 111, 114, 100, 115, 32, 34] a acc Y (by decide) (by decide)
  exact this
theorem quiet4 : Quiet [13, 10, 9, 44] := fun a Y acc => by
  show lxG a (13 :: 10 :: 9 :: 44 :: Y) acc = _
  rw [lxG_blank _ _ _ _ (by decide), lxG_blank _ _ _ _ (by decide), lxG_blank _ _ _ _ (by decide), lxG_blank _ _ _ _ (by decide)]
  rfl
/-- Where the law is: what is laid so far reads as these tokens. -/
def LaidIs (T : List UInt8) (acc : List Tk) : Prop := ∀ Y, lxG 0 (T ++ Y) [] = lxG T.length Y acc
theorem laid_start {g : List UInt8} (h : Quiet g) : LaidIs g [] := fun Y => by rw [h, Nat.zero_add]
theorem laid_step {S T g p : List UInt8} {acc : List Tk} {t : Tk} {n te m : Nat} (hq : Quiet g) (hT : LaidIs T acc) (h : PieceAt S t te n) (hm : m ≤ te - t.at_) (hn : n ≤ m) (hp : p = (S.drop t.at_).take m) : LaidIs (T ++ p ++ [10] ++ g) (acc ++ [⟨t.k, t.s, T.length⟩]) := fun Y => by
  have hpl : p.length = m := by rw [hp, List.length_take, List.length_drop]; have := h.2.1; omega
  have e : T ++ p ++ [10] ++ g ++ Y = T ++ ((S.drop t.at_).take m ++ 10 :: (g ++ Y)) := by rw [hp]; simp
  rw [e, hT, piece_step h hm hn, hq]
  congr 1
  simp only [List.length_append, List.length_singleton, hpl]
theorem laid_end {T : List UInt8} {acc : List Tk} (h : LaidIs T acc) (hl : T.length ≤ 8000) : lexP T = (acc, 0, 0) := by
  rw [lexP_G _ hl]
  have := h []
  rwa [List.append_nil, lxG_nil] at this
def LikeTk (acc ts : List Tk) : Prop := ∀ (j : Nat) (x : Tk), acc[j]? = some x → ∃ y, ts[j]? = some y ∧ x.k = y.k ∧ x.s = y.s
theorem like_step {acc ts : List Tk} {t : Tk} {a i : Nat} (h : LikeTk acc ts) (hi : acc.length = i) (ht : ts[i]? = some t) : LikeTk (acc ++ [⟨t.k, t.s, a⟩]) ts := by
  intro j x hj
  rcases Nat.lt_or_ge j acc.length with hlt | hge
  · rw [List.getElem?_append_left hlt] at hj
    exact h j x hj
  · rw [List.getElem?_append_right hge] at hj
    have hj0 : j - acc.length = 0 := by
      rcases Nat.eq_zero_or_pos (j - acc.length) with h' | h'
      · exact h'
      · rw [List.getElem?_eq_none (by rw [List.length_singleton]; exact h')] at hj; cases hj
    rw [hj0] at hj
    simp only [List.getElem?_cons_zero, Option.some.injEq] at hj
    subst hj
    exact ⟨t, by rw [show j = i by omega]; exact ht, rfl, rfl⟩

end Go.Proofs.YtakmkhkbeabgcaaDoor

/-
  LexBlanks: its walk.
-/
namespace Go.Proofs.YtakmkhkbeabgcaaDoor
open Go.RowKit

theorem lxGo_two : ∀ (f a : Nat) (l : List UInt8) (acc : List Tk), (lxGo f a l acc).2.2 = 0 → (lxGo f a l acc).2.1 = 0
  | 0, _, _, _, _ => rfl
  | _ + 1, _, [], _, _ => rfl
  | f + 1, a, b :: r, acc, h => by
    cases hb : lxBlank b with
    | true =>
      rw [lxGo_blank _ _ _ _ _ hb] at h ⊢
      exact lxGo_two f _ _ _ h
    | false =>
      cases h35 : (b == 35) with
      | true =>
        rw [lxGo_rem _ _ _ _ _ hb h35] at h ⊢
        exact lxGo_two f _ _ _ h
      | false =>
        cases hw : lxWord (b :: r) with
        | none =>
          rw [lxGo_none _ _ _ _ _ hb h35 hw] at h
          exact absurd (show (2 : Nat) = 0 from h) (by decide)
        | some o =>
          obtain ⟨k, s, m⟩ := o
          rw [lxGo_some _ _ _ _ _ hb h35 hw] at h ⊢
          exact lxGo_two f _ _ _ h
theorem lexP_seg {l : List UInt8} {ts : List Tk} {a : Nat} (h : lexP l = (ts, a, 0)) : Sg l 0 ts := by
  have hl : l.length ≤ 8000 := by
    rcases Nat.lt_or_ge 8000 l.length with h' | h'
    · unfold lexP at h
      rw [if_pos h'] at h
      simp at h
    · exact h'
  rw [lexP_G _ hl] at h
  have h0 : a = 0 := by
    have := lxGo_two l.length 0 l [] (by show (lxG 0 l []).2.2 = 0; rw [h])
    have e : (lxG 0 l []).2.1 = 0 := this
    rw [h] at e
    exact e
  subst h0
  obtain ⟨ts', h1, h2⟩ := seg l.length l 0 [] ts (by omega) (Nat.zero_le _) (by rw [List.drop_zero]; exact h)
  rw [List.nil_append] at h1
  subst h1
  exact h2
def strV : Value → Nat
  | .string s => s.size
  | _ => 0
def atVals (ts : List Tk) : List Value := ts.map fun t => .int .i64 t.at_
def LkRel (ts : List Tk) (w2 : World) (v9 v10 v11 : Value) (wr : World) : Prop :=
  ∃ (i : Nat) (T : ByteArray) (acc : List Tk), v9 = .string T ∧ v11 = .int .i64 i ∧ i ≤ ts.length ∧ acc.length = i ∧ T.size ≤ 10 + i * 1011 ∧ wr.ownsRow w2.heap.size 3 1 v10 i (atVals acc) ∧ Below w2.heap.size w2 wr ∧ Hid (LaidIs T.data.toList acc) ∧ Hid (LikeTk acc ts)
theorem index_str (s : ByteArray) (q : Nat) (h : q < s.size) (w : World) : (Instr.index 9 (.string s) (.int .i64 (q : Nat))).run Tryd.prog w = .ok (.int .u8 (s[q].toNat : Int)) w := by
  go_simp
theorem slice_to' (s : ByteArray) (b : Nat) (h : b ≤ s.size) (w : World) : (Instr.slice 9 (.string s) none (some (.int .i64 (b : Nat))) none).run Tryd.prog w = .ok (.string (s.extract 0 b)) w := by
  have e1 : ¬ ((s.size : Int) < b) := by omega
  go_simp
theorem infoI : ∃ i, Tryd.prog.info? 3 = some i ∧ i.zero = some (.int .i64 0) ∧ i.size = 1 ∧ i.bytes = 8 :=
  info_parts (by kernel_rfl)
/-- A row of one cell each, as a call finds it. -/
def LkRow (w : World) (a : Option Addr) (xs : List Value) : Prop := 0 < xs.length → ∃ g, a = some ⟨g, 0, none⟩ ∧ ∀ j u, xs[j]? = some u → w.cell? ⟨g, j, none⟩ = some u
theorem lkRow_of {w : World} {B n : Nat} {T : TypeId} {v : Value} {xs : List Value} (h : w.ownsRow B T 1 v n xs) (hn : n = xs.length) : ∃ a cap, v = .slice a n cap ∧ n ≤ cap ∧ ∀ w', Below w.heap.size w w' → LkRow w' a xs := by
  rcases h.2 with ⟨hv, h0⟩ | ⟨g, cap, cur, hv, hB, hg, hcap, _⟩
  · exact ⟨none, 0, by rw [hv, h0], by omega, fun _ _ h' => absurd h' (by omega)⟩
  · refine ⟨some ⟨g, 0, none⟩, cap, hv, hcap, fun w' hb _ => ⟨g, rfl, fun j u hj => ?_⟩⟩
    have := (own_below h hb).cells (g := g) (by rw [hv]; rfl) j u hj
    have e : (⟨g, 0, none⟩ : Addr).add j = ⟨g, j, none⟩ := by cases j <;> simp [Addr.add]
    rwa [e] at this

set_option maxHeartbeats 4000000 in
set_option maxRecDepth 100000 in
theorem lk_walk (s : ByteArray) (kind : Int) (w : World) (kd : Nat) (x : ByteArray) (hxs : x.size ≤ 10)
    (HPk : ∀ W, Calls Tryd.prog 13 #[.int .i64 kind, .int .i64 5] W fun e w' => e = .returned (.int .i64 (kd : Int)) ∧ W = w')
    (hix : ∀ W, (Instr.index 32 (.agg #[.string ⟨#[32]⟩, .string ⟨#[44]⟩, .string ⟨#[10]⟩, .string ⟨#[35, 32, 119, 111, 114, 100, 115, 32, 34, 10]⟩, .string ⟨#[13, 10, 9, 44]⟩]) (.int .i64 (kd : Int))).run Tryd.prog W = .ok (.string x) W)
    (HQ : Hid (Quiet x.data.toList)) :
    Calls Tryd.prog 4 #[.string s, .int .i64 kind] w (TrueBelow w) := by
  by_cases hbig : 1000 < s.size
  · have hd : decide ((1000 : Int) < s.size) = true := decide_eq_true (by omega)
    go_enter Tryd.func4, Tryd.ntmps4
    go_wp2_with fail
    refine (lxAwake _).mono ?_
    rintro e w1 ⟨rfl, b1⟩
    go_wp2_with fail
    go_ret
    exact ⟨rfl, b1⟩
  · have hd : decide ((1000 : Int) < s.size) = false := decide_eq_false (by omega)
    have hB := fun W => refAll_any s W (by omega)
    have HL := Lib.hid (lexP_len s.data.toList)
    cases hr : lexP s.data.toList with
    | mk ts p =>
    obtain ⟨pa, pc⟩ := p
    rw [hr] at hB HL
    have hl : ts.length ≤ 8000 := HL.out
    clear HL
    by_cases hpc : pc = 0
    · subst hpc
      have HSG := Lib.hid (lexP_seg hr)
      clear hr
      obtain ⟨i0, hi, hz0, hz1, hz2⟩ := infoI
      have HI0 := Lib.hid hi
      have HZ0 := Lib.hid hz0
      have HZ1 := Lib.hid hz1
      have HZ2 := Lib.hid hz2
      clear hi hz0 hz1 hz2
      go_enter Tryd.func4, Tryd.ntmps4
      go_wp2_with fail
      refine (hB _).mono ?_
      rintro e w2 ⟨v2, rfl, o2, b2⟩
      obtain ⟨a2, c2, rfl, hc2, hT2, hT2'⟩ := tkAt_of o2
      have HT := Lib.hid hT2'
      clear o2 hT2 hT2' hB
      go_wp2_with fail
      refine (HPk _).mono ?_
      rintro e w' ⟨rfl, rfl⟩
      go_wp2_with fail
      go_loopw [9, 10, 11, 12, 13] (fun v9 v10 v11 _ _ wr => LkRel ts w2 v9 v10 v11 wr) (fun _ _ v11 _ _ _ => ts.length - (intOf v11).toNat)
      case atStart => exact ⟨0, x, [], rfl, rfl, Nat.zero_le _, rfl, by omega, World.ownsRow_nil _ _ _ _, Below.refl _ _, Lib.hid (laid_start HQ.out), Lib.hid (fun j y h => by simp at h)⟩
      case round =>
        obtain ⟨i, T, acc, rfl, rfl, hi, hacc, hTs, hown, hbw, HLA, HLK⟩ := hrel
        have HACC := Lib.hid hacc
        clear hacc
        have hsz := hbw.size
        by_cases hlt : i < ts.length
        · have hd1 : decide ((i : Int) < ts.length) = true := decide_eq_true (by omega)
          obtain ⟨g, rfl, cA⟩ := HT.out wr hbw (by omega)
          obtain ⟨t, ht⟩ : ∃ t, ts[i]? = some t := ⟨ts[i], List.getElem?_eq_getElem hlt⟩
          obtain ⟨k0, _, k2⟩ := tkCells_at ts i t ht
          have r0 := cA _ _ k0
          have r2 := cA _ _ k2
          obtain ⟨n0, hpc⟩ := sg_at ts 0 i t HSG.out ht
          have HPC := Lib.hid hpc
          obtain ⟨hp1, hp2, hp3, _, _⟩ := hpc
          have hn0 := (lxWord_le hp3).1
          have HW := Lib.hid hp3
          have HTI := Lib.hid ht
          have hss : s.data.toList.length = s.size := rfl
          have hto : (i + 1 < ts.length ∧ ∃ u : Tk, ts[i + 1]? = some u ∧ toOf s.data.toList ts i = u.at_) ∨ (¬ i + 1 < ts.length ∧ toOf s.data.toList ts i = s.size) := by
            unfold toOf
            by_cases h : i + 1 < ts.length
            · exact .inl ⟨h, ts[i + 1], List.getElem?_eq_getElem h, by rw [List.getElem?_eq_getElem h]⟩
            · exact .inr ⟨h, by rw [List.getElem?_eq_none (by omega)]; rfl⟩
          clear hp3 k0 k2 ht
          have hw1 : IntKind.i64.wrap ((i : Int) + 1) = (i : Int) + 1 := IntWalk.i64_in _ (by omega)
          rcases hto with ⟨hnx, u, hu, hto⟩ | ⟨hnx, hto⟩
          · obtain ⟨_, _, k3⟩ := tkCells_at ts (i + 1) u hu
            have r3 := cA _ _ k3
            clear k3 cA hu
            have hd2 : decide ((i : Int) + 1 < ts.length) = true := decide_eq_true (by omega)
            rw [hto] at HPC hp1 hp2
            clear hto
            have hsl := slice_two' s t.at_ u.at_ (by omega) (by omega) (u.at_ : Int) rfl
            go_wp2_with fail
            go_loop [13] (fun v13 => ∃ (m : Nat) (p : ByteArray), v13 = .string p ∧ n0 ≤ m ∧ m ≤ u.at_ - t.at_ ∧ Hid (p.data.toList = (s.data.toList.drop t.at_).take m)) (fun v13 => strV v13)
            case atStart => exact ⟨u.at_ - t.at_, _, rfl, by omega, Nat.le_refl _, Lib.hid (lext_list _ _ _)⟩
            case round =>
              obtain ⟨m, p, rfl, hm1, hm2, HP⟩ := hrel
              have hps : p.size = m := by
                have e : p.data.toList.length = p.size := rfl
                rw [← e, HP.out, List.length_take, List.length_drop]
                omega
              obtain ⟨q, rfl⟩ : ∃ q, m = q + 1 := ⟨m - 1, by omega⟩
              have hd3 : decide ((0 : Int) < p.size) = true := decide_eq_true (by omega)
              have hq : q < p.size := by omega
              have hw2 : IntKind.i64.wrap ((p.size : Int) - 1) = (q : Int) := by rw [show (p.size : Int) - 1 = q by omega]; exact IntWalk.i64_in _ (by omega)
              have hxp := index_str p q hq
              have hsp := slice_to' p q (by omega)
              have HC := Lib.hid (show (s.data.toList.drop t.at_)[q]? = some p[q] by
                have e : p.data.toList[q]? = some p[q] := by rw [List.getElem?_eq_getElem (show q < p.data.toList.length from hq)]; rfl
                rw [HP.out, List.getElem?_take_of_lt (by omega)] at e
                exact e)
              have hpl : p.size ≤ 1000 := by omega
              have HPS := Lib.hid hps
              clear hps hsl
              have hq8 : ∀ n : Nat, n < 256 → ((p[q].toNat : Int) == (n : Int)) = (p[q] == UInt8.ofNat n) := fun n hn => by
                rw [Bool.eq_iff_iff, beq_iff_eq, beq_iff_eq, ← UInt8.toNat_inj, UInt8.toNat_ofNat_of_lt' (by simpa using hn)]
                omega
              have hst : stpU p[q] = (((p[q].toNat : Int) == 32) || ((p[q].toNat : Int) == 44) || ((p[q].toNat : Int) == 10)) := by
                rw [show ((p[q].toNat : Int) == 32) = _ from hq8 32 (by decide), show ((p[q].toNat : Int) == 44) = _ from hq8 44 (by decide), show ((p[q].toNat : Int) == 10) = _ from hq8 10 (by decide)]
                rfl
              clear hq8
              have hcase : (((t.k : Int) != 4) = true ∧ stpU p[q] = true) ∨ (((t.k : Int) != 4) = false ∨ (((t.k : Int) != 4) = true ∧ stpU p[q] = false)) := by
                cases ((t.k : Int) != 4) <;> cases stpU p[q] <;> simp
              rcases hcase with ⟨f4, hs1⟩ | hcase
              · have HN := Lib.hid (strip_ok HW.out (by intro e; rw [e] at f4; exact absurd f4 (by decide)) HC.out hs1)
                rw [hs1] at hst
                have hk : ((p[q].toNat : Int) == 32) = true ∨ (((p[q].toNat : Int) == 32) = false ∧ ((p[q].toNat : Int) == 44) = true) ∨ (((p[q].toNat : Int) == 32) = false ∧ ((p[q].toNat : Int) == 44) = false ∧ ((p[q].toNat : Int) == 10) = true) := by
                  revert hst
                  cases ((p[q].toNat : Int) == 32) <;> cases ((p[q].toNat : Int) == 44) <;> cases ((p[q].toNat : Int) == 10) <;> decide
                clear hst hs1
                generalize (p[q].toNat : Int) = c at *
                rcases hk with e1 | ⟨e1, e2⟩ | ⟨e1, e2, e3⟩
                all_goals
                  go_wp2_with fail
                  go_round
                  case rel => exact ⟨q, _, rfl, HN.out, by omega, Lib.hid (by rw [lext_list, HP.out, List.drop_zero, List.take_take]; congr 1; omega)⟩
                  case measure =>
                    show (p.extract 0 q).size < p.size
                    rw [ByteArray.size_extract]
                    omega
              · have HE : ((t.k : Int) != 4) = false ∨ (((t.k : Int) != 4) = true ∧ ((p[q].toNat : Int) == 32) = false ∧ ((p[q].toNat : Int) == 44) = false ∧ ((p[q].toNat : Int) == 10) = false) := by
                  rcases hcase with h | ⟨h, h'⟩
                  · exact .inl h
                  · rw [h'] at hst
                    have hst' := hst.symm
                    simp only [Bool.or_eq_false_iff] at hst'
                    exact .inr ⟨h, hst'.1.1, hst'.1.2, hst'.2⟩
                clear hst hcase
                generalize (p[q].toNat : Int) = c at *
                have hTs' : T.size ≤ 9000000 := by omega
                have HLS := Lib.hid (laid_step HQ.out HLA.out HPC.out hm2 hm1 HP.out)
                have HKS := Lib.hid (like_step (a := T.data.toList.length) HLK.out HACC.out HTI.out)
                rcases HE with e1 | ⟨e0, e1, e2, e3⟩
                all_goals
                  go_wp2_with (at_builtin; refine wpList_append_own _ rfl _ _ 34 rfl w2.heap.size 3 i0 (.int .i64 0) 1 8 Tryd.underlying34 HI0.out HZ0.out HZ1.out HZ2.out rfl (by decide) _ _ _ rfl (hown.alloc _) ⟨wr.heap.size, 0, none⟩ 1 1 [.int .i64 T.size] rfl rfl ?c1 ?c2 ?c3 ?c4 ?c5 ?_)
                  case c2 => rfl
                  case c3 => unfold maxLen; omega
                  case c4 => omega
                  case c5 => first | omega | (simp; omega)
                  intro v' w5 hown' hgrow _
                  have hbw5 : Below w2.heap.size w2 w5 := (hbw.alloc (by omega) _).grown hgrow (by simp; omega) (fun k hk => by have := (hown.lt k hk).1; omega)
                  have HOWN := Lib.hid hown'
                  clear hown' hgrow
                  go_wp2_with fail
                  go_roundw
                  case rel =>
                    refine ⟨i + 1, T ++ p ++ ⟨#[10]⟩ ++ x, acc ++ [⟨t.k, t.s, T.data.toList.length⟩], rfl, by go_num, by omega, by simp [HACC.out], ?_, ?_, hbw5, Lib.hid ?_, HKS⟩
                    · rw [ByteArray.size_append, ByteArray.size_append, ByteArray.size_append]
                      show T.size + p.size + 1 + x.size ≤ _
                      omega
                    · have e : atVals (acc ++ [⟨t.k, t.s, T.data.toList.length⟩]) = atVals acc ++ [.int .i64 T.size] := by simp [atVals]
                      rw [e]
                      exact HOWN.out
                    · rw [app_list, app_list, app_list]
                      exact HLS.out
                  case measure => simp [intOf]; omega
          · have hd2 : decide ((i : Int) + 1 < ts.length) = false := decide_eq_false (by omega)
            rw [hto] at HPC hp1 hp2
            clear hto cA
            have hsl := slice_two' s t.at_ s.size (by omega) (by omega) (s.size : Int) rfl
            go_wp2_with fail
            go_loop [13] (fun v13 => ∃ (m : Nat) (p : ByteArray), v13 = .string p ∧ n0 ≤ m ∧ m ≤ s.size - t.at_ ∧ Hid (p.data.toList = (s.data.toList.drop t.at_).take m)) (fun v13 => strV v13)
            case atStart => exact ⟨s.size - t.at_, _, rfl, by omega, Nat.le_refl _, Lib.hid (lext_list _ _ _)⟩
            case round =>
              obtain ⟨m, p, rfl, hm1, hm2, HP⟩ := hrel
              have hps : p.size = m := by
                have e : p.data.toList.length = p.size := rfl
                rw [← e, HP.out, List.length_take, List.length_drop]
                omega
              obtain ⟨q, rfl⟩ : ∃ q, m = q + 1 := ⟨m - 1, by omega⟩
              have hd3 : decide ((0 : Int) < p.size) = true := decide_eq_true (by omega)
              have hq : q < p.size := by omega
              have hw2 : IntKind.i64.wrap ((p.size : Int) - 1) = (q : Int) := by rw [show (p.size : Int) - 1 = q by omega]; exact IntWalk.i64_in _ (by omega)
              have hxp := index_str p q hq
              have hsp := slice_to' p q (by omega)
              have HC := Lib.hid (show (s.data.toList.drop t.at_)[q]? = some p[q] by
                have e : p.data.toList[q]? = some p[q] := by rw [List.getElem?_eq_getElem (show q < p.data.toList.length from hq)]; rfl
                rw [HP.out, List.getElem?_take_of_lt (by omega)] at e
                exact e)
              have hpl : p.size ≤ 1000 := by omega
              have HPS := Lib.hid hps
              clear hps hsl
              have hq8 : ∀ n : Nat, n < 256 → ((p[q].toNat : Int) == (n : Int)) = (p[q] == UInt8.ofNat n) := fun n hn => by
                rw [Bool.eq_iff_iff, beq_iff_eq, beq_iff_eq, ← UInt8.toNat_inj, UInt8.toNat_ofNat_of_lt' (by simpa using hn)]
                omega
              have hst : stpU p[q] = (((p[q].toNat : Int) == 32) || ((p[q].toNat : Int) == 44) || ((p[q].toNat : Int) == 10)) := by
                rw [show ((p[q].toNat : Int) == 32) = _ from hq8 32 (by decide), show ((p[q].toNat : Int) == 44) = _ from hq8 44 (by decide), show ((p[q].toNat : Int) == 10) = _ from hq8 10 (by decide)]
                rfl
              clear hq8
              have hcase : (((t.k : Int) != 4) = true ∧ stpU p[q] = true) ∨ (((t.k : Int) != 4) = false ∨ (((t.k : Int) != 4) = true ∧ stpU p[q] = false)) := by
                cases ((t.k : Int) != 4) <;> cases stpU p[q] <;> simp
              rcases hcase with ⟨f4, hs1⟩ | hcase
              · have HN := Lib.hid (strip_ok HW.out (by intro e; rw [e] at f4; exact absurd f4 (by decide)) HC.out hs1)
                rw [hs1] at hst
                have hk : ((p[q].toNat : Int) == 32) = true ∨ (((p[q].toNat : Int) == 32) = false ∧ ((p[q].toNat : Int) == 44) = true) ∨ (((p[q].toNat : Int) == 32) = false ∧ ((p[q].toNat : Int) == 44) = false ∧ ((p[q].toNat : Int) == 10) = true) := by
                  revert hst
                  cases ((p[q].toNat : Int) == 32) <;> cases ((p[q].toNat : Int) == 44) <;> cases ((p[q].toNat : Int) == 10) <;> decide
                clear hst hs1
                generalize (p[q].toNat : Int) = c at *
                rcases hk with e1 | ⟨e1, e2⟩ | ⟨e1, e2, e3⟩
                all_goals
                  go_wp2_with fail
                  go_round
                  case rel => exact ⟨q, _, rfl, HN.out, by omega, Lib.hid (by rw [lext_list, HP.out, List.drop_zero, List.take_take]; congr 1; omega)⟩
                  case measure =>
                    show (p.extract 0 q).size < p.size
                    rw [ByteArray.size_extract]
                    omega
              · have HE : ((t.k : Int) != 4) = false ∨ (((t.k : Int) != 4) = true ∧ ((p[q].toNat : Int) == 32) = false ∧ ((p[q].toNat : Int) == 44) = false ∧ ((p[q].toNat : Int) == 10) = false) := by
                  rcases hcase with h | ⟨h, h'⟩
                  · exact .inl h
                  · rw [h'] at hst
                    have hst' := hst.symm
                    simp only [Bool.or_eq_false_iff] at hst'
                    exact .inr ⟨h, hst'.1.1, hst'.1.2, hst'.2⟩
                clear hst hcase
                generalize (p[q].toNat : Int) = c at *
                have hTs' : T.size ≤ 9000000 := by omega
                have HLS := Lib.hid (laid_step HQ.out HLA.out HPC.out hm2 hm1 HP.out)
                have HKS := Lib.hid (like_step (a := T.data.toList.length) HLK.out HACC.out HTI.out)
                rcases HE with e1 | ⟨e0, e1, e2, e3⟩
                all_goals
                  go_wp2_with (at_builtin; refine wpList_append_own _ rfl _ _ 34 rfl w2.heap.size 3 i0 (.int .i64 0) 1 8 Tryd.underlying34 HI0.out HZ0.out HZ1.out HZ2.out rfl (by decide) _ _ _ rfl (hown.alloc _) ⟨wr.heap.size, 0, none⟩ 1 1 [.int .i64 T.size] rfl rfl ?c1 ?c2 ?c3 ?c4 ?c5 ?_)
                  case c2 => rfl
                  case c3 => unfold maxLen; omega
                  case c4 => omega
                  case c5 => first | omega | (simp; omega)
                  intro v' w5 hown' hgrow _
                  have hbw5 : Below w2.heap.size w2 w5 := (hbw.alloc (by omega) _).grown hgrow (by simp; omega) (fun k hk => by have := (hown.lt k hk).1; omega)
                  have HOWN := Lib.hid hown'
                  clear hown' hgrow
                  go_wp2_with fail
                  go_roundw
                  case rel =>
                    refine ⟨i + 1, T ++ p ++ ⟨#[10]⟩ ++ x, acc ++ [⟨t.k, t.s, T.data.toList.length⟩], rfl, by go_num, by omega, by simp [HACC.out], ?_, ?_, hbw5, Lib.hid ?_, HKS⟩
                    · rw [ByteArray.size_append, ByteArray.size_append, ByteArray.size_append]
                      show T.size + p.size + 1 + x.size ≤ _
                      omega
                    · have e : atVals (acc ++ [⟨t.k, t.s, T.data.toList.length⟩]) = atVals acc ++ [.int .i64 T.size] := by simp [atVals]
                      rw [e]
                      exact HOWN.out
                    · rw [app_list, app_list, app_list]
                      exact HLS.out
                  case measure => simp [intOf]; omega
        · have hd1 : decide ((i : Int) < ts.length) = false := decide_eq_false (by omega)
          have hn : i = ts.length := by omega
          have hTs' : T.size ≤ 9000000 := by omega
          by_cases h8 : 8000 < T.size
          · have hd3 : decide ((8000 : Int) < T.size) = true := decide_eq_true (by omega)
            clear hn
            go_wp2_with fail
            refine (lxAwake _).mono ?_
            rintro e w5 ⟨rfl, b5⟩
            go_wp2_with fail
            go_ret
            have h2 := b2.size
            exact ⟨rfl, (b2.trans (hbw.mono h2)).trans (b5.mono (by omega))⟩
          · have hd3 : decide ((8000 : Int) < T.size) = false := decide_eq_false (by omega)
            have hA := fun W => lexAll_any T W (by omega)
            rw [laid_end HLA.out (show T.size ≤ 8000 by omega)] at hA
            obtain ⟨a3, c3, rfl, hc3, hT3⟩ := lkRow_of hown (by rw [hn]; simp [atVals, HACC.out, hn])
            have HT3 := Lib.hid hT3
            have HN := Lib.hid hn
            clear hown hT3 hn hc3
            go_wp2_with fail
            refine (hA _).mono ?_
            rintro e w5 ⟨v5, rfl, o5, b5⟩
            obtain ⟨a5, c5, hv5, hc5, _, hT5⟩ := tkAt_of o5
            have hv5' : v5 = .slice a5 ts.length c5 := by rw [hv5]; show Value.slice a5 acc.length c5 = _; rw [HACC.out, HN.out]
            subst hv5'
            have HT5 := Lib.hid hT5
            have h5 := b5.size
            have h2 := b2.size
            have hb5 : Below w2.heap.size w2 w5 := hbw.trans (b5.mono hsz)
            clear hv5 o5 hT5 hA hc5
            go_wp2_with fail
            go_loopw [17] (fun v17 wq => ∃ j : Nat, v17 = .int .i64 (j : Nat) ∧ j ≤ ts.length ∧ Below w5.heap.size w5 wq) (fun v17 _ => ts.length - (intOf v17).toNat)
            case atStart => exact ⟨0, rfl, Nat.zero_le _, Below.refl _ _⟩
            case round =>
              obtain ⟨j, rfl, hj, hbq⟩ := hrel
              by_cases hjl : j < ts.length
              · have hd4 : decide ((j : Int) < ts.length) = true := decide_eq_true (by omega)
                have hja : j < acc.length := by rw [HACC.out, HN.out]; exact hjl
                obtain ⟨y0, hy0⟩ : ∃ y, acc[j]? = some y := ⟨acc[j], List.getElem?_eq_getElem hja⟩
                obtain ⟨z, hz, ek, es⟩ := HLK.out j y0 hy0
                obtain ⟨g5, rfl, cA5⟩ := HT5.out wr hbq (show 0 < acc.length by omega)
                obtain ⟨g2, rfl, cA2⟩ := HT.out wr (hb5.trans (hbq.mono (by omega))) (by omega)
                obtain ⟨g3, rfl, cA3⟩ := HT3.out wr (b5.trans (hbq.mono h5)) (by simp [atVals]; omega)
                obtain ⟨k0, k1, k2⟩ := tkCells_at acc j y0 hy0
                obtain ⟨l0, l1, _⟩ := tkCells_at ts j z hz
                rw [← ek] at l0
                rw [← es] at l1
                have p0 := cA5 _ _ k0
                have p1 := cA5 _ _ k1
                have p2 := cA5 _ _ k2
                have q0 := cA2 _ _ l0
                have q1 := cA2 _ _ l1
                have q2 := cA3 j (.int .i64 y0.at_) (by simp [atVals, hy0])
                clear cA5 cA2 cA3 k0 k1 k2 l0 l1 ek es hz hy0 hja
                generalize y0.k = x0 at *
                generalize (⟨(y0.s).toArray⟩ : ByteArray) = x1 at *
                generalize y0.at_ = x2 at *
                go_upto_region 28 with fail
                go_quiet (fail)
                go_wp2_with fail
                go_roundw
                case rel => exact ⟨j + 1, by go_num, by omega, ⟨hbq.os, hbq.tape, hbq.output, hbq.size, hbq.block⟩⟩
                case measure => simp [intOf]; omega
              · have hd4 : decide ((j : Int) < ts.length) = false := decide_eq_false (by omega)
                go_wp2_with fail
                refine (lxAwake _).mono ?_
                rintro e w6 ⟨rfl, b6⟩
                go_wp2_with fail
                go_ret
                have h6 := hbq.size
                exact ⟨rfl, ((b2.trans (hb5.mono h2)).trans (hbq.mono (by omega))).trans (b6.mono (by omega))⟩
    · have f0 : ((pc : Int) != 0) = true := by simpa using hpc
      clear hr
      go_enter Tryd.func4, Tryd.ntmps4
      go_wp2_with fail
      refine (hB _).mono ?_
      rintro e w2 ⟨v2, rfl, o2, b2⟩
      go_wp2_with fail
      refine (lxAwake _).mono ?_
      rintro e w3 ⟨rfl, b3⟩
      go_wp2_with fail
      go_ret
      exact ⟨rfl, b2.trans (b3.mono b2.size)⟩

theorem lk_ix0 (W : World) : (Instr.index 32 (.agg #[.string ⟨#[32]⟩, .string ⟨#[44]⟩, .string ⟨#[10]⟩, .string ⟨#[35, 32, 119, 111, 114, 100, 115, 32, 34, 10]⟩, .string ⟨#[13, 10, 9, 44]⟩]) (.int .i64 ((0 : Nat) : Int))).run Tryd.prog W = .ok (.string ⟨#[32]⟩) W := by kernel_rfl
theorem lk_ix1 (W : World) : (Instr.index 32 (.agg #[.string ⟨#[32]⟩, .string ⟨#[44]⟩, .string ⟨#[10]⟩, .string ⟨#[35, 32, 119, 111, 114, 100, 115, 32, 34, 10]⟩, .string ⟨#[13, 10, 9, 44]⟩]) (.int .i64 ((1 : Nat) : Int))).run Tryd.prog W = .ok (.string ⟨#[44]⟩) W := by kernel_rfl
theorem lk_ix2 (W : World) : (Instr.index 32 (.agg #[.string ⟨#[32]⟩, .string ⟨#[44]⟩, .string ⟨#[10]⟩, .string ⟨#[35, 32, 119, 111, 114, 100, 115, 32, 34, 10]⟩, .string ⟨#[13, 10, 9, 44]⟩]) (.int .i64 ((2 : Nat) : Int))).run Tryd.prog W = .ok (.string ⟨#[10]⟩) W := by kernel_rfl
theorem lk_ix3 (W : World) : (Instr.index 32 (.agg #[.string ⟨#[32]⟩, .string ⟨#[44]⟩, .string ⟨#[10]⟩, .string ⟨#[35, 32, 119, 111, 114, 100, 115, 32, 34, 10]⟩, .string ⟨#[13, 10, 9, 44]⟩]) (.int .i64 ((3 : Nat) : Int))).run Tryd.prog W = .ok (.string ⟨#[35, 32, 119, 111, 114, 100, 115, 32, 34, 10]⟩) W := by kernel_rfl
theorem lk_ix4 (W : World) : (Instr.index 32 (.agg #[.string ⟨#[32]⟩, .string ⟨#[44]⟩, .string ⟨#[10]⟩, .string ⟨#[35, 32, 119, 111, 114, 100, 115, 32, 34, 10]⟩, .string ⟨#[13, 10, 9, 44]⟩]) (.int .i64 ((4 : Nat) : Int))).run Tryd.prog W = .ok (.string ⟨#[13, 10, 9, 44]⟩) W := by kernel_rfl
theorem lexBlanks_walk (s : ByteArray) (kind : Int) (w : World) : Calls Tryd.prog 4 #[.string s, .int .i64 kind] w (TrueBelow w) := by
  obtain ⟨m, em, lm⟩ := lrem_nat kind 5 (by omega)
  have HPm : ∀ W, Calls Tryd.prog 13 #[.int .i64 kind, .int .i64 5] W fun e w' => e = .returned (.int .i64 (m : Int)) ∧ W = w' := fun W => by have := place_any kind 5 W (by omega) (by omega); rw [em] at this; exact this
  have hm : m < 5 := by omega
  clear em lm
  match m, hm with
  | 0, _ => exact lk_walk s kind w 0 ⟨#[32]⟩ (by decide) HPm lk_ix0 (Lib.hid quiet0)
  | 1, _ => exact lk_walk s kind w 1 ⟨#[44]⟩ (by decide) HPm lk_ix1 (Lib.hid quiet1)
  | 2, _ => exact lk_walk s kind w 2 ⟨#[10]⟩ (by decide) HPm lk_ix2 (Lib.hid quiet2)
  | 3, _ => exact lk_walk s kind w 3 ⟨#[35, 32, 119, 111, 114, 100, 115, 32, 34, 10]⟩ (by decide) HPm lk_ix3 (Lib.hid quiet3)
  | 4, _ => exact lk_walk s kind w 4 ⟨#[13, 10, 9, 44]⟩ (by decide) HPm lk_ix4 (Lib.hid quiet4)

end Go.Proofs.YtakmkhkbeabgcaaDoor
