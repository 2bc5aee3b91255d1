/-
  What the document's lex answers of block texts and texts.
-/
import Derived.Test.YtakmkhkbeabgcaaDoorLx7
import Derived.Test.YtakmkhkbeabgcaaDoorRef2b
import Derived.Test.YtakmkhkbeabgcaaDoorRef7
import Derived.Test.YtakmkhkbeabgcaaDoorRef9
namespace Go.Proofs.YtakmkhkbeabgcaaDoor
open Go.RowKit

def blkP (l : List UInt8) : Option (List UInt8 × Nat) := match lxCutP l with
  | none => none
  | some (raw, n) => if lxRaw raw then some (blockB raw, n) else none
def qtP (l : List UInt8) : Option (List UInt8 × Nat) := match unqP (l.take (lxQn l)) with
  | none => none
  | some t => some (t, lxQn l)
def txtP (l : List UInt8) : Option (List UInt8 × Nat) := if Lib.hasPrefix l lxFence then blkP l else qtP l
theorem lxBlock_blk (l : List UInt8) : lxBlock l = (blkP l).map fun p => (4, p.1, p.2) := by
  unfold lxBlock blkP lxCutP
  cases lxCut l.length 3 [] (l.drop 3) with
  | none => rfl
  | some o =>
    obtain ⟨raw, n⟩ := o
    simp only
    split <;> rfl
theorem lxQuoted_qt (l : List UInt8) : lxQuoted l = (qtP l).map fun p => (4, p.1, p.2) := by
  unfold lxQuoted qtP
  cases unqP (l.take (lxQn l)) with
  | none => rfl
  | some o => rfl

def TxIs (w : World) (p : Nat) (o : Option (List UInt8 × Nat)) (e : Ending) (w' : World) : Prop :=
  Below w.heap.size w w' ∧ match o with
    | some (t, n) => e = .returned (.tuple #[.string ⟨t.toArray⟩, .int .i64 ((p + n : Nat) : Int), .bool true])
    | none => ∃ (t : ByteArray) (n : Int), e = .returned (.tuple #[.string t, .int .i64 n, .bool false])
theorem tx_yes {w w' : World} {p : Nat} {o : Option (List UInt8 × Nat)} {t : List UInt8} {n : Nat} {z : Int} (h : o = some (t, n)) (hz : z = ((p + n : Nat) : Int)) (hb : Below w.heap.size w w') : TxIs w p o (.returned (.tuple #[.string ⟨t.toArray⟩, .int .i64 z, .bool true])) w' := by subst h hz; exact ⟨hb, rfl⟩
theorem tx_no {w w' : World} {p : Nat} {o : Option (List UInt8 × Nat)} {t : ByteArray} {n : Int} (h : o = none) (hb : Below w.heap.size w w') : TxIs w p o (.returned (.tuple #[.string t, .int .i64 n, .bool false])) w' := by subst h; exact ⟨hb, _, _, rfl⟩

theorem cut_has : ∀ (f i : Nat) (acc l raw : List UInt8) (n : Nat), lxCut f i acc l = some (raw, n) → ∃ t, raw = acc ++ t
  | 0, _, _, _, _, _, h => by simp [lxCut] at h
  | _ + 1, _, _, [], _, _, h => by simp [lxCut] at h
  | f + 1, i, acc, b :: r, raw, n, h => by
    unfold lxCut at h
    split at h
    · simp only [Option.some.injEq, Prod.mk.injEq] at h
      exact ⟨[], by rw [← h.1]; simp⟩
    · split at h
      · obtain ⟨t, ht⟩ := cut_has f _ _ _ _ _ h
        exact ⟨lxFence ++ t, by rw [ht, List.append_assoc]⟩
      · obtain ⟨t, ht⟩ := cut_has f _ _ _ _ _ h
        exact ⟨[b] ++ t, by rw [ht, List.append_assoc]⟩
theorem blk_bad {l : List UInt8} {f i : Nat} {acc r : List UInt8} {b : UInt8} (h : lxCut f i (acc ++ [b]) r = lxCutP l) (hb : rawU b = false) : blkP l = none := by
  unfold blkP
  rw [← h]
  cases hc : lxCut f i (acc ++ [b]) r with
  | none => rfl
  | some o =>
    obtain ⟨raw, n⟩ := o
    obtain ⟨t, ht⟩ := cut_has _ _ _ _ _ _ hc
    have : lxRaw raw = false := by
      rw [ht]
      simp [lxRaw, hb]
    show (if lxRaw raw = true then _ else _) = _
    rw [this]
    rfl
theorem qpre_short {l k : List UInt8} (h : l.length < k.length) : Lib.hasPrefix l k = false := by
  rw [Bool.eq_false_iff]
  intro e
  have := (List.isPrefixOf_iff_prefix.1 e).length_le
  omega
theorem qpre_take {l k : List UInt8} : Lib.hasPrefix l k = (l.take k.length == k) := by
  rw [Bool.eq_iff_iff, beq_iff_eq]
  constructor
  · intro e
    exact (List.prefix_iff_eq_take.1 (List.isPrefixOf_iff_prefix.1 e)).symm
  · intro e
    exact List.isPrefixOf_iff_prefix.2 (List.prefix_iff_eq_take.2 e.symm)
theorem ext_is (s : ByteArray) (q m : Nat) (k : List UInt8) (hk : k.length = m) (B : Bool) (h : Lib.hasPrefix (s.data.toList.drop q) k = B) : ((s.extract q (q + m)).toList == k) = B := by
  rw [← h, qpre_take, Lib.toList_data, lext_list, Nat.add_sub_cancel_left, hk]

theorem slice_two' (s : ByteArray) (a b : Nat) (h1 : a ≤ b) (h2 : b ≤ s.size) (z : Int) (hz : z = b) (w : World) : (Instr.slice 9 (.string s) (some (.int .i64 a)) (some (.int .i64 z)) none).run Tryd.prog w = .ok (.string (s.extract a b)) w := by
  subst hz
  have e1 : ¬ ((a : Int) < 0 ∨ (b : Int) < a ∨ (s.size : Int) < b) := by omega
  have e2 : ¬ ((s.size : Int) < b) := by omega
  have e3 : ¬ ((b : Int) < a) := by omega
  go_simp

set_option maxHeartbeats 4000000 in
set_option maxRecDepth 100000 in
theorem refBlk_any (s : ByteArray) (p : Nat) (w : World) (hp : p + 3 ≤ s.size) (hs : s.size ≤ 90000) : Calls Tryd.prog 47 #[.string s, .int .i64 ((p + 3 : Nat) : Int)] w (TxIs w p (blkP (s.data.toList.drop p))) := by
  go_enter Tryd.func47, Tryd.ntmps47
  go_wp2_with fail
  go_loop [1, 7] (fun v1 v7 => ∃ (q j f : Nat) (T : ByteArray), v1 = .int .i64 (q : Nat) ∧ v7 = .string T ∧ q ≤ s.size ∧ s.size ≤ f + q ∧ T.size ≤ q ∧ Hid (q = p + j) ∧ Hid (T.data.toList.all rawU = true) ∧ Hid (lxCut f j T.data.toList (s.data.toList.drop q) = lxCutP (s.data.toList.drop p))) (fun v1 _ => s.size - (intOf v1).toNat)
  case atStart => exact ⟨p + 3, 3, (s.data.toList.drop p).length, ⟨#[]⟩, rfl, rfl, hp, by rw [len_drop]; omega, by show 0 ≤ _; omega, Lib.hid rfl, Lib.hid rfl, Lib.hid (by unfold lxCutP; rw [List.drop_drop])⟩
  case round =>
    obtain ⟨q, j, f, T, rfl, rfl, hq, hf, hT, HQ, HA, HR⟩ := hrel
    by_cases hil : q < s.size
    · have hd1 : decide ((q : Int) < s.size) = true := decide_eq_true (by omega)
      have HD := Lib.hid (drop_cons s q hil)
      obtain ⟨f, rfl⟩ : ∃ f', f = f' + 1 := ⟨f - 1, by omega⟩
      have q1 : IntKind.i64.wrap ((s.size : Int) - q) = (s.size : Int) - q := IntWalk.i64_in _ (by omega)
      cases h1 : Lib.hasPrefix (s.data.toList.drop q) lxFence with
      | true =>
        have hl3 : q + 3 ≤ s.size := by
          have h := (List.isPrefixOf_iff_prefix.1 h1).length_le
          rw [len_drop] at h
          have : lxFence.length = 3 := rfl
          omega
        have hx : ((s.extract q (q + 3)).toList == [34, 34, 34]) = true := ext_is s q 3 lxFence rfl true h1
        have hge : decide ((3 : Int) ≤ (s.size : Int) - q) = true := decide_eq_true (by omega)
        have HY := Lib.hid (show lxCutP (s.data.toList.drop p) = some (T.data.toList, j + 3) by
          have h := HR.out
          rw [HD.out] at h h1
          rw [← h, lxCut, if_pos h1])
        have hK := fun W => refBlock_any T W (by omega)
        have hV := fun W => refValid_any T W (by omega)
        have hsl := slice_two' s q (q + 3) (by omega) hl3 ((q : Int) + 3) (by omega)
        clear h1 HR
        generalize s.extract q (q + 3) = ex at *
        cases hv : Lib.validD T.data.toList with
        | true =>
          rw [hv] at hV
          have HZ := Lib.hid (show blkP (s.data.toList.drop p) = some (blockB T.data.toList, j + 3) by
            unfold blkP
            rw [HY.out]
            show (if lxRaw _ = true then _ else _) = _
            rw [if_pos (by unfold lxRaw; rw [HA.out, hv]; rfl)])
          clear hv
          go_wp2_with fail
          refine (hK _).mono ?_
          rintro e w2 ⟨rfl, b2⟩
          go_wp2_with fail
          refine (hV _).mono ?_
          rintro e w3 ⟨rfl, rfl⟩
          go_wp2_with fail
          exact bodyPost_ret (v := .tuple #[.string ⟨(blockB T.data.toList).toArray⟩, .int .i64 ((q : Int) + 3), .bool true]) (by simp [results, Tryd.results47, go_sem]) rfl (tx_yes HZ.out (by have := HQ.out; omega) b2)
        | false =>
          rw [hv] at hV
          have HZ := Lib.hid (show blkP (s.data.toList.drop p) = none by
            unfold blkP
            rw [HY.out]
            show (if lxRaw _ = true then _ else _) = _
            rw [if_neg (by unfold lxRaw; rw [HA.out, hv]; decide)])
          clear hv
          go_wp2_with fail
          refine (hK _).mono ?_
          rintro e w2 ⟨rfl, b2⟩
          go_wp2_with fail
          refine (hV _).mono ?_
          rintro e w3 ⟨rfl, rfl⟩
          go_wp2_with fail
          exact bodyPost_ret (v := .tuple #[.string ⟨(blockB T.data.toList).toArray⟩, .int .i64 ((q : Int) + 3), .bool false]) (by simp [results, Tryd.results47, go_sem]) rfl (tx_no HZ.out b2)
      | false =>
        have hg3 : decide ((3 : Int) ≤ (s.size : Int) - q) = true ∨ decide ((3 : Int) ≤ (s.size : Int) - q) = false := by cases decide ((3 : Int) ≤ (s.size : Int) - q) <;> simp
        have hx3 : ((s.extract q (q + 3)).toList == [34, 34, 34]) = false := ext_is s q 3 lxFence rfl false h1
        have HF := Lib.hid h1
        have hs3 : q + 3 ≤ s.size → _ := fun h => slice_two' s q (q + 3) (by omega) h ((q : Int) + 3) (by omega)
        generalize s.extract q (q + 3) = ex3 at *
        cases h2 : Lib.hasPrefix (s.data.toList.drop q) lxEsc with
        | true =>
          have hl4 : q + 4 ≤ s.size := by
            have h := (List.isPrefixOf_iff_prefix.1 h2).length_le
            rw [len_drop] at h
            have : lxEsc.length = 4 := rfl
            omega
          have hx4 : ((s.extract q (q + 4)).toList == [92, 34, 34, 34]) = true := ext_is s q 4 lxEsc rfl true h2
          have hge3 : decide ((3 : Int) ≤ (s.size : Int) - q) = true := decide_eq_true (by omega)
          have hge4 : decide ((4 : Int) ≤ (s.size : Int) - q) = true := decide_eq_true (by omega)
          have hsl3 := hs3 (by omega)
          have hsl4 := slice_two' s q (q + 4) (by omega) hl4 ((q : Int) + 4) (by omega)
          have HY := Lib.hid (show lxCut f (j + 4) (T.data.toList ++ lxFence) (s.data.toList.drop (q + 4)) = lxCutP (s.data.toList.drop p) by
            have h := HR.out
            rw [HD.out] at h h1 h2
            rw [← h, lxCut, if_neg (by rw [h1]; decide), if_pos h2, List.drop_drop])
          clear h1 h2 HR hs3 hg3
          generalize s.extract q (q + 4) = ex4 at *
          go_wp2_with fail
          go_round
          case rel => exact ⟨q + 4, j + 4, f, T ++ ⟨#[34, 34, 34]⟩, by go_num, rfl, by omega, by omega, by rw [ByteArray.size_append]; show T.size + 3 ≤ _; omega, Lib.hid (by have := HQ.out; omega), Lib.hid (by rw [app_list, List.all_append, HA.out]; rfl), Lib.hid (by rw [app_list]; exact HY.out)⟩
          case measure => simp [intOf]; omega
        | false =>
          have hx4 : ((s.extract q (q + 4)).toList == [92, 34, 34, 34]) = false := ext_is s q 4 lxEsc rfl false h2
          have hs4 : q + 4 ≤ s.size → _ := fun h => slice_two' s q (q + 4) (by omega) h ((q : Int) + 4) (by omega)
          have hsl1 := slice_two' s q (q + 1) (by omega) (by omega) ((q : Int) + 1) (by omega)
          have HY := Lib.hid (show lxCut f (j + 1) (T.data.toList ++ [s[q]]) (s.data.toList.drop (q + 1)) = lxCutP (s.data.toList.drop p) by
            have h := HR.out
            rw [HD.out] at h h1 h2
            rw [← h, lxCut, if_neg (by rw [h1]; decide), if_neg (by rw [h2]; decide)])
          have hE1 := Lib.hid (show (s.extract q (q + 1)).data.toList = [s[q]] by rw [lext_list, Nat.add_sub_cancel_left, HD.out]; rfl)
          have hz1 : (s.extract q (q + 1)).size = 1 := by have e : (s.extract q (q + 1)).data.toList.length = (s.extract q (q + 1)).size := rfl; rw [← e, hE1.out]; rfl
          have hrw := rawU_R s[q]
          clear h1 h2 HR
          generalize s.extract q (q + 4) = ex4 at *
          generalize s.extract q (q + 1) = ex1 at *
          have HRW := Lib.hid hrw
          have hk4 : (decide ((3 : Int) ≤ (s.size : Int) - q) = true ∧ decide ((4 : Int) ≤ (s.size : Int) - q) = true) ∨ (decide ((3 : Int) ≤ (s.size : Int) - q) = true ∧ decide ((4 : Int) ≤ (s.size : Int) - q) = false) ∨ (decide ((3 : Int) ≤ (s.size : Int) - q) = false ∧ decide ((4 : Int) ≤ (s.size : Int) - q) = false) := by
            by_cases g4 : q + 4 ≤ s.size
            · exact .inl ⟨decide_eq_true (by omega), decide_eq_true (by omega)⟩
            · by_cases g3 : q + 3 ≤ s.size
              · exact .inr (.inl ⟨decide_eq_true (by omega), decide_eq_false (by omega)⟩)
              · exact .inr (.inr ⟨decide_eq_false (by omega), decide_eq_false (by omega)⟩)
          cases hr : rawR (s[q].toNat : Int) with
          | false =>
            have HZ := Lib.hid (blk_bad HY.out (hrw.trans hr))
            unfold rawR at hr
            simp only [Bool.not_eq_false', Bool.and_eq_true] at hr
            obtain ⟨⟨⟨r1, r2⟩, r3⟩, r4⟩ := hr
            clear hrw hg3
            rcases hk4 with ⟨k3, k4⟩ | ⟨k3, k4⟩ | ⟨k3, k4⟩
            · have hsl3 := hs3 (by have := of_decide_eq_true k3; omega)
              have hsl4 := hs4 (by have := of_decide_eq_true k4; omega)
              go_wp2_with fail
              exact bodyPost_ret (v := .tuple #[.string ⟨#[]⟩, .int .i64 (q : Int), .bool false]) (by simp [results, Tryd.results47, go_sem]) rfl (tx_no HZ.out (Below.refl _ _))
            · have hsl3 := hs3 (by have := of_decide_eq_true k3; omega)
              go_wp2_with fail
              exact bodyPost_ret (v := .tuple #[.string ⟨#[]⟩, .int .i64 (q : Int), .bool false]) (by simp [results, Tryd.results47, go_sem]) rfl (tx_no HZ.out (Below.refl _ _))
            · go_wp2_with fail
              exact bodyPost_ret (v := .tuple #[.string ⟨#[]⟩, .int .i64 (q : Int), .bool false]) (by simp [results, Tryd.results47, go_sem]) rfl (tx_no HZ.out (Below.refl _ _))
          | true =>
            have HC := Lib.hid (hrw.trans hr)
            clear hrw hg3
            have hk : decide ((s[q].toNat : Int) < 32) = false ∨ (decide ((s[q].toNat : Int) < 32) = true ∧ ((s[q].toNat : Int) != 9) = false) ∨ (decide ((s[q].toNat : Int) < 32) = true ∧ ((s[q].toNat : Int) != 9) = true ∧ ((s[q].toNat : Int) != 10) = false) ∨ (decide ((s[q].toNat : Int) < 32) = true ∧ ((s[q].toNat : Int) != 9) = true ∧ ((s[q].toNat : Int) != 10) = true ∧ ((s[q].toNat : Int) != 13) = false) := by
              unfold rawR at hr
              revert hr
              cases decide ((s[q].toNat : Int) < 32) <;> cases ((s[q].toNat : Int) != 9) <;> cases ((s[q].toNat : Int) != 10) <;> cases ((s[q].toNat : Int) != 13) <;> decide
            clear hr
            rcases hk4 with ⟨k3, k4⟩ | ⟨k3, k4⟩ | ⟨k3, k4⟩
            · have hsl3 := hs3 (by have := of_decide_eq_true k3; omega)
              have hsl4 := hs4 (by have := of_decide_eq_true k4; omega)
              rcases hk with r1 | ⟨r1, r2⟩ | ⟨r1, r2, r3⟩ | ⟨r1, r2, r3, r4⟩
              all_goals
                go_wp2_with fail
                go_round
                case rel => exact ⟨q + 1, j + 1, f, T ++ ex1, by go_num, rfl, by omega, by omega, by rw [ByteArray.size_append]; omega, Lib.hid (by have := HQ.out; omega), Lib.hid (by rw [app_list, hE1.out, List.all_append, HA.out, List.all_cons, HC.out]; rfl), Lib.hid (by rw [app_list, hE1.out]; exact HY.out)⟩
                case measure => simp [intOf]; omega
            · have hsl3 := hs3 (by have := of_decide_eq_true k3; omega)
              rcases hk with r1 | ⟨r1, r2⟩ | ⟨r1, r2, r3⟩ | ⟨r1, r2, r3, r4⟩
              all_goals
                go_wp2_with fail
                go_round
                case rel => exact ⟨q + 1, j + 1, f, T ++ ex1, by go_num, rfl, by omega, by omega, by rw [ByteArray.size_append]; omega, Lib.hid (by have := HQ.out; omega), Lib.hid (by rw [app_list, hE1.out, List.all_append, HA.out, List.all_cons, HC.out]; rfl), Lib.hid (by rw [app_list, hE1.out]; exact HY.out)⟩
                case measure => simp [intOf]; omega
            · rcases hk with r1 | ⟨r1, r2⟩ | ⟨r1, r2, r3⟩ | ⟨r1, r2, r3, r4⟩
              all_goals
                go_wp2_with fail
                go_round
                case rel => exact ⟨q + 1, j + 1, f, T ++ ex1, by go_num, rfl, by omega, by omega, by rw [ByteArray.size_append]; omega, Lib.hid (by have := HQ.out; omega), Lib.hid (by rw [app_list, hE1.out, List.all_append, HA.out, List.all_cons, HC.out]; rfl), Lib.hid (by rw [app_list, hE1.out]; exact HY.out)⟩
                case measure => simp [intOf]; omega
    · have hd1 : decide ((q : Int) < s.size) = false := decide_eq_false (by omega)
      have HZ := Lib.hid (show blkP (s.data.toList.drop p) = none by
        have h := HR.out
        rw [drop_end s q hil, lxCut_end] at h
        unfold blkP
        rw [← h])
      go_wp2_with fail
      exact bodyPost_ret (v := .tuple #[.string ⟨#[]⟩, .int .i64 (q : Int), .bool false]) (by simp [results, Tryd.results47, go_sem]) rfl (tx_no HZ.out (Below.refl _ _))

end Go.Proofs.YtakmkhkbeabgcaaDoor
