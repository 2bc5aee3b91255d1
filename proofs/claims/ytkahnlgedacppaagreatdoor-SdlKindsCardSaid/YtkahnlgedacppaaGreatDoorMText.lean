/-
  What lex.word and lex.All answer.
-/
import Derived.Test.YtkahnlgedacppaaGreatDoorMLx5
import Derived.Test.YtkahnlgedacppaaGreatDoorMLx3
import Derived.Test.YtkahnlgedacppaaGreatDoorMSplit2
import Derived.Test.YtkahnlgedacppaaGreatDoorMLeast
import Derived.Test.YtkahnlgedacppaaGreatDoorMSmall
import Derived.Maps.OwnSet
import Derived.Maps.AppendAt
import Derived.StringKeys
import Derived.Test.YtkahnlgedacppaaGreatDoorMQuote2
namespace Go.Proofs.YtkahnlgedacppaaGreatDoor
open Go.RowKit

theorem tokV_shape (o : Wd) : ∃ (k : Nat) (t : ByteArray) (n : Nat), tokV o = .tuple #[.agg #[.int .i64 k, .string t, .int .i64 0], .int .i64 n] := by
  cases o with
  | none => exact ⟨0, ⟨#[]⟩, 0, rfl⟩
  | some x => exact ⟨x.1, ⟨x.2.1.toArray⟩, x.2.2, rfl⟩

theorem lxWord_at (s : ByteArray) (h : 0 < s.size) : lxWord s.data.toList = if letU s[0] then lxName s.data.toList else if s[0] == 45 || digU s[0] then lxNum s.data.toList else if Lib.hasPrefix s.data.toList lxFence then lxBlock s.data.toList else if s[0] == 34 then lxQuoted s.data.toList else lxSign s.data.toList := by
  generalize hl : s.data.toList = l
  have := head_list s h
  rw [hl] at this
  rw [this]
  rfl

set_option maxHeartbeats 2000000 in
set_option maxRecDepth 100000 in
theorem word_any (s : ByteArray) (w : World) (h0 : 0 < s.size) (hs : s.size ≤ 90000) : Calls Tryz.prog 134 #[.string s] w (TokIs w (lxWord s.data.toList)) := by
  have HW := Lib.hid (lxWord_at s h0)
  have hL := fun W => isOneOf_any s[0] lettersS W
  have hD := fun W => isOneOf_any s[0] digitsS W
  have hF := fun W => turnW (Tryz.strings_HasPrefix s ⟨lxFence.toArray⟩ W)
  rw [letters_has] at hL
  rw [digits_has] at hD
  rw [toArray_list] at hF
  have e45 : ((s[0].toNat : Int) == 45) = (s[0] == 45) := by rw [Bool.eq_iff_iff]; simp [← UInt8.toNat_inj]; omega
  have e34 : ((s[0].toNat : Int) == 34) = (s[0] == 34) := by rw [Bool.eq_iff_iff]; simp [← UInt8.toNat_inj]; omega
  have hN := fun W => lxName_any s W (by omega)
  have hM := fun W => lxNum_any s W (by omega)
  have hB := fun W => lxBlock_any s W (by omega)
  have hQ := fun W => lxQuoted_any s W h0 (by omega)
  have hS := fun W => lxSign_any s W h0 (by omega)
  cases h1 : letU s[0] with
  | true =>
    rw [h1] at hL
    have HY := Lib.hid (show lxWord s.data.toList = lxName s.data.toList by rw [HW.out, h1]; rfl)
    obtain ⟨k, t, n, hv⟩ := tokV_shape (lxName s.data.toList)
    have HV := Lib.hid hv
    clear hv h1
    go_enter Tryz.func134, Tryz.ntmps134
    go_wp2_with fail
    refine (hL _).mono ?_
    rintro e w1 ⟨rfl, rfl⟩
    go_wp2_with fail
    refine (hN _).mono ?_
    rintro e w2 ⟨rfl, b2⟩
    obtain ⟨q0, q1, q2, qf, hlt, hb⟩ := tok_cells b2
    have q0f := qf 0
    have q1f := qf 1
    have q2f := qf 2
    clear qf b2
    rw [HV.out]
    go_wp2_with fail
    exact bodyPost_ret (v := .tuple #[.agg #[.int .i64 k, .string t, .int .i64 0], .int .i64 n]) (by simp [results, Tryz.results134, go_sem, q0, q1, q2]) rfl ⟨by rw [HY.out, HV.out], below_three hb _ _ _⟩
  | false =>
    rw [h1] at hL
    cases h2 : (s[0] == 45) with
    | true =>
      rw [h2] at e45
      have HY := Lib.hid (show lxWord s.data.toList = lxNum s.data.toList by rw [HW.out, h1, h2]; rfl)
      obtain ⟨k, t, n, hv⟩ := tokV_shape (lxNum s.data.toList)
      have HV := Lib.hid hv
      clear hv h1 h2
      go_enter Tryz.func134, Tryz.ntmps134
      go_wp2_with fail
      refine (hL _).mono ?_
      rintro e w1 ⟨rfl, rfl⟩
      go_wp2_with fail
      refine (hM _).mono ?_
      rintro e w2 ⟨rfl, b2⟩
      obtain ⟨q0, q1, q2, qf, hlt, hb⟩ := tok_cells b2
      have q0f := qf 0
      have q1f := qf 1
      have q2f := qf 2
      clear qf b2
      rw [HV.out]
      go_wp2_with fail
      exact bodyPost_ret (v := .tuple #[.agg #[.int .i64 k, .string t, .int .i64 0], .int .i64 n]) (by simp [results, Tryz.results134, go_sem, q0, q1, q2]) rfl ⟨by rw [HY.out, HV.out], below_three hb _ _ _⟩
    | false =>
      rw [h2] at e45
      cases h3 : digU s[0] with
      | true =>
        rw [h3] at hD
        have HY := Lib.hid (show lxWord s.data.toList = lxNum s.data.toList by rw [HW.out, h1, h2, h3]; rfl)
        obtain ⟨k, t, n, hv⟩ := tokV_shape (lxNum s.data.toList)
        have HV := Lib.hid hv
        clear hv h1 h2 h3
        go_enter Tryz.func134, Tryz.ntmps134
        go_wp2_with fail
        refine (hL _).mono ?_
        rintro e w1 ⟨rfl, rfl⟩
        go_wp2_with fail
        refine (hD _).mono ?_
        rintro e w1 ⟨rfl, rfl⟩
        go_wp2_with fail
        refine (hM _).mono ?_
        rintro e w2 ⟨rfl, b2⟩
        obtain ⟨q0, q1, q2, qf, hlt, hb⟩ := tok_cells b2
        have q0f := qf 0
        have q1f := qf 1
        have q2f := qf 2
        clear qf b2
        rw [HV.out]
        go_wp2_with fail
        exact bodyPost_ret (v := .tuple #[.agg #[.int .i64 k, .string t, .int .i64 0], .int .i64 n]) (by simp [results, Tryz.results134, go_sem, q0, q1, q2]) rfl ⟨by rw [HY.out, HV.out], below_three hb _ _ _⟩
      | false =>
        rw [h3] at hD
        cases h4 : Lib.hasPrefix s.data.toList lxFence with
        | true =>
          rw [h4] at hF
          have HY := Lib.hid (show lxWord s.data.toList = lxBlock s.data.toList by rw [HW.out, h1, h2, h3, h4]; rfl)
          obtain ⟨k, t, n, hv⟩ := tokV_shape (lxBlock s.data.toList)
          have HV := Lib.hid hv
          clear hv h1 h2 h3 h4
          go_enter Tryz.func134, Tryz.ntmps134
          go_wp2_with fail
          refine (hL _).mono ?_
          rintro e w1 ⟨rfl, rfl⟩
          go_wp2_with fail
          refine (hD _).mono ?_
          rintro e w1 ⟨rfl, rfl⟩
          go_wp2_with fail
          refine (hF _).mono ?_
          rintro e w1 ⟨rfl, rfl⟩
          go_wp2_with fail
          refine (hB _).mono ?_
          rintro e w2 ⟨rfl, b2⟩
          obtain ⟨q0, q1, q2, qf, hlt, hb⟩ := tok_cells b2
          have q0f := qf 0
          have q1f := qf 1
          have q2f := qf 2
          clear qf b2
          rw [HV.out]
          go_wp2_with fail
          exact bodyPost_ret (v := .tuple #[.agg #[.int .i64 k, .string t, .int .i64 0], .int .i64 n]) (by simp [results, Tryz.results134, go_sem, q0, q1, q2]) rfl ⟨by rw [HY.out, HV.out], below_three hb _ _ _⟩
        | false =>
          rw [h4] at hF
          cases h5 : (s[0] == 34) with
          | true =>
            rw [h5] at e34
            have HY := Lib.hid (show lxWord s.data.toList = lxQuoted s.data.toList by rw [HW.out, h1, h2, h3, h4, h5]; rfl)
            obtain ⟨k, t, n, hv⟩ := tokV_shape (lxQuoted s.data.toList)
            have HV := Lib.hid hv
            clear hv h1 h2 h3 h4 h5
            go_enter Tryz.func134, Tryz.ntmps134
            go_wp2_with fail
            refine (hL _).mono ?_
            rintro e w1 ⟨rfl, rfl⟩
            go_wp2_with fail
            refine (hD _).mono ?_
            rintro e w1 ⟨rfl, rfl⟩
            go_wp2_with fail
            refine (hF _).mono ?_
            rintro e w1 ⟨rfl, rfl⟩
            go_wp2_with fail
            refine (hQ _).mono ?_
            rintro e w2 ⟨rfl, b2⟩
            obtain ⟨q0, q1, q2, qf, hlt, hb⟩ := tok_cells b2
            have q0f := qf 0
            have q1f := qf 1
            have q2f := qf 2
            clear qf b2
            rw [HV.out]
            go_wp2_with fail
            exact bodyPost_ret (v := .tuple #[.agg #[.int .i64 k, .string t, .int .i64 0], .int .i64 n]) (by simp [results, Tryz.results134, go_sem, q0, q1, q2]) rfl ⟨by rw [HY.out, HV.out], below_three hb _ _ _⟩
          | false =>
            rw [h5] at e34
            have HY := Lib.hid (show lxWord s.data.toList = lxSign s.data.toList by rw [HW.out, h1, h2, h3, h4, h5]; rfl)
            obtain ⟨k, t, n, hv⟩ := tokV_shape (lxSign s.data.toList)
            have HV := Lib.hid hv
            clear hv h1 h2 h3 h4 h5
            go_enter Tryz.func134, Tryz.ntmps134
            go_wp2_with fail
            refine (hL _).mono ?_
            rintro e w1 ⟨rfl, rfl⟩
            go_wp2_with fail
            refine (hD _).mono ?_
            rintro e w1 ⟨rfl, rfl⟩
            go_wp2_with fail
            refine (hF _).mono ?_
            rintro e w1 ⟨rfl, rfl⟩
            go_wp2_with fail
            refine (hS _).mono ?_
            rintro e w2 ⟨rfl, b2⟩
            obtain ⟨q0, q1, q2, qf, hlt, hb⟩ := tok_cells b2
            have q0f := qf 0
            have q1f := qf 1
            have q2f := qf 2
            clear qf b2
            rw [HV.out]
            go_wp2_with fail
            exact bodyPost_ret (v := .tuple #[.agg #[.int .i64 k, .string t, .int .i64 0], .int .i64 n]) (by simp [results, Tryz.results134, go_sem, q0, q1, q2]) rfl ⟨by rw [HY.out, HV.out], below_three hb _ _ _⟩

/-! ### All -/
def tkCells (ts : List Tk) : List Value := ts.flatMap fun t => [.int .i64 t.k, .string ⟨t.s.toArray⟩, .int .i64 t.at_]
theorem tkCells_snoc (ts : List Tk) (t : Tk) : tkCells (ts ++ [t]) = tkCells ts ++ [.int .i64 t.k, .string ⟨t.s.toArray⟩, .int .i64 t.at_] := by
  unfold tkCells
  rw [List.flatMap_append]
  simp
/-- What All answers: the tokens lie in a row of its own. -/
def LexIs (w : World) (r : List Tk × Nat × Nat) (e : Ending) (w' : World) : Prop :=
  ∃ v, e = .returned (.tuple #[v, .int .i64 r.2.1, .int .i64 r.2.2]) ∧ w'.ownsRow w.heap.size 197 3 v r.1.length (tkCells r.1) ∧ Below w.heap.size w w'
theorem lex_no {w w' : World} {r : List Tk × Nat × Nat} {a c : Nat} (h : r = ([], a, c)) (hb : Below w.heap.size w w') : LexIs w r (.returned (.tuple #[.slice none 0 0, .int .i64 a, .int .i64 c])) w' := by
  subst h
  exact ⟨_, rfl, World.ownsRow_nil _ _ _ _, hb⟩
theorem own_below {B n len : Nat} {T : TypeId} {v : Value} {xs : List Value} {w w1 : World} (h : w.ownsRow B T n v len xs) (hb : Below w.heap.size w w1) : w1.ownsRow B T n v len xs := by
  obtain ⟨hl, h⟩ := h
  refine ⟨hl, h.imp id ?_⟩
  rintro ⟨g, cap, cur, hv, hB, hg, r⟩
  exact ⟨g, cap, cur, hv, hB, (hb.block g (Array.getElem?_eq_some_iff.1 hg).1).trans hg, r⟩
theorem infoTok : ∃ i, Tryz.prog.info? 197 = some i ∧ i.zero = some (.agg #[.int .i64 0, .string ⟨#[]⟩, .int .i64 0]) ∧ i.size = 3 ∧ i.bytes = 32 :=
  info_parts (by kernel_rfl)
theorem cell_three_new (w : World) (a b c : Value) (T : TypeId) : ∀ j u, [a, b, c][j]? = some u → (w.alloc (.cells #[a, b, c] T)).cell? ((⟨w.heap.size, 0, none⟩ : Addr).add j) = some u := by
  intro j u hj
  match j, hj with
  | 0, hj => simp at hj; subst hj; simp [Addr.add]
  | 1, hj => simp at hj; subst hj; simp [Addr.add]
  | 2, hj => simp at hj; subst hj; simp [Addr.add]

theorem lxGo_word {f a : Nat} {b : UInt8} {l r : List UInt8} {acc : List Tk} (hl : l = b :: r) (h : lxBlank b = false) (h2 : (b == 35) = false) {k : Nat} {s : List UInt8} {n : Nat} (hw : lxWord l = some (k, s, n)) : lxGo (f + 1) a l acc = lxGo f (a + n) (l.drop n) (acc ++ [⟨k, s, a⟩]) := by
  subst hl
  exact lxGo_some _ _ _ _ _ h h2 hw

/-- The loop of All. -/
def LexRel (s : ByteArray) (w : World) (v5 v6 : Value) (wr : World) : Prop :=
  ∃ (i f : Nat) (ts : List Tk), v6 = .int .i64 i ∧ i ≤ s.size ∧ s.size < f + i ∧ ts.length ≤ i ∧ wr.ownsRow w.heap.size 197 3 v5 ts.length (tkCells ts) ∧ Below w.heap.size w wr ∧ lxGo f i (s.data.toList.drop i) ts = lexP s.data.toList

set_option maxHeartbeats 4000000 in
set_option maxRecDepth 100000 in
theorem lexAll_any (s : ByteArray) (w : World) (hs : s.size ≤ 1000000000) : Calls Tryz.prog 83 #[.string s] w (LexIs w (lexP s.data.toList)) := by
  obtain ⟨i0, hi, hz0, hz1, hz2⟩ := infoTok
  have HI0 := Lib.hid hi
  have HZ0 := Lib.hid hz0
  have HZ1 := Lib.hid hz1
  have HZ2 := Lib.hid hz2
  clear hi hz0 hz1 hz2
  by_cases hbig : 8000 < s.size
  · have HY := Lib.hid (show lexP s.data.toList = ([], 0, 3) by unfold lexP; rw [if_pos (show 8000 < s.data.toList.length from hbig)])
    have hd : decide ((8000 : Int) < (s.size : Int)) = true := decide_eq_true (by omega)
    go_enter Tryz.func83, Tryz.ntmps83
    go_wp2_with fail
    (first | (refine wp_scope_straight ?_; go_wp2_with fail) | skip)
    (first | simp only [Exit.noGoto] | skip)
    refine bodyPost_ret (v := .tuple #[.slice none 0 0, .int .i64 (0 : Nat), .int .i64 (3 : Nat)]) (by simp [results, Tryz.results83, go_sem]) rfl (lex_no HY.out (Below.refl _ _))
  · have hd : decide ((8000 : Int) < (s.size : Int)) = false := decide_eq_false (by omega)
    have HP := Lib.hid (show lxGo (s.size + 1) 0 s.data.toList [] = lexP s.data.toList by unfold lexP; rw [if_neg (show ¬ 8000 < s.data.toList.length from hbig)]; rfl)
    go_enter Tryz.func83, Tryz.ntmps83
    go_wp2_with fail
    (first | (refine wp_scope_straight ?_; go_wp2_with fail) | skip)
    (first | (go_step3; go_wp2_with fail) | skip)
    go_loopw [5, 6, 7, 8, 9] (fun v5 v6 _ _ _ wr => LexRel s w v5 v6 wr) (fun _ v6 _ _ _ _ => s.size - (intOf v6).toNat)
    case atStart => exact ⟨0, s.size + 1, [], rfl, Nat.zero_le _, by omega, by simp, World.ownsRow_nil _ _ _ _, Below.refl _ _, HP.out⟩
    case round =>
      obtain ⟨i, f, ts, rfl, his, hf, hts, hown, hbw, hres⟩ := hrel
      have HR := Lib.hid hres
      have hsz := hbw.size
      clear hres HP
      by_cases hil : i < s.size
      · have hd1 : decide ((i : Int) < s.size) = true := decide_eq_true (by omega)
        obtain ⟨f, rfl⟩ : ∃ f', f = f' + 1 := ⟨f - 1, by omega⟩
        have hK := fun W => lxIsBlank_any s[i] W
        have HD := Lib.hid (drop_cons s i hil)
        cases hbl : lxBlank s[i] with
        | true =>
          rw [hbl] at hK
          have HY := Lib.hid (show lxGo f (i + 1) (s.data.toList.drop (i + 1)) ts = lexP s.data.toList by rw [← HR.out, HD.out, lxGo_blank _ _ _ _ _ hbl])
          clear hbl
          go_wp2_with fail
          refine (hK _).mono ?_
          rintro e w1 ⟨rfl, rfl⟩
          go_wp2_with fail
          go_roundw
          case rel => exact ⟨i + 1, f, ts, by go_num, by omega, by omega, by omega, hown, hbw, HY.out⟩
          case measure => simp [intOf]; omega
        | false =>
          rw [hbl] at hK
          have e35 : ((s[i].toNat : Int) == 35) = (s[i] == 35) := by rw [Bool.eq_iff_iff]; simp [← UInt8.toNat_inj]; omega
          have hxs : (s.extract i s.size).size = s.size - i := by simp
          cases h35 : (s[i] == 35) with
          | true =>
            rw [h35] at e35
            have hRm := fun W => remarkSize_any (s.extract i s.size) W (by omega)
            rw [lext_all] at hRm
            have hn0 : 0 < lxRem (s.data.toList.drop i) := by rw [HD.out]; exact lxRem_pos h35
            have hn1 : lxRem (s.data.toList.drop i) ≤ s.size - i := by have := lxRem_le (s.data.toList.drop i); rwa [len_drop] at this
            have HY := Lib.hid (show lxGo f (i + lxRem (s.data.toList.drop i)) (s.data.toList.drop (i + lxRem (s.data.toList.drop i))) ts = lexP s.data.toList by
              rw [← HR.out, ← List.drop_drop]
              generalize hdd : s.data.toList.drop i = d
              rw [HD.out] at hdd
              subst hdd
              rw [lxGo_rem _ _ _ _ _ hbl h35])
            clear hbl h35
            generalize lxRem (s.data.toList.drop i) = n at *
            go_wp2_with fail
            refine (hK _).mono ?_
            rintro e w1 ⟨rfl, rfl⟩
            go_wp2_with fail
            refine (hRm _).mono ?_
            rintro e w2 ⟨rfl, b2⟩
            go_wp2_with fail
            go_roundw
            case rel => exact ⟨i + n, f, ts, by go_num, by omega, by omega, by omega, own_below hown b2, hbw.trans (b2.mono hsz), HY.out⟩
            case measure => simp [intOf]; omega
          | false =>
            rw [h35] at e35
            have hW := fun W => word_any (s.extract i s.size) W (by omega) (by omega)
            rw [lext_all] at hW
            cases hw : lxWord (s.data.toList.drop i) with
            | none =>
              rw [hw] at hW
              have HY := Lib.hid (show lexP s.data.toList = ([], i, 2) by
                rw [HD.out] at hw
                rw [← HR.out, HD.out, lxGo_none _ _ _ _ _ hbl h35 hw])
              clear hbl h35 hw
              go_wp2_with fail
              refine (hK _).mono ?_
              rintro e w1 ⟨rfl, rfl⟩
              go_wp2_with fail
              refine (hW _).mono ?_
              rintro e w2 ⟨rfl, b2⟩
              unfold tokV
              go_wp2_with fail
              refine bodyPost_ret (v := .tuple #[.slice none 0 0, .int .i64 (i : Nat), .int .i64 (2 : Nat)]) (by simp [results, Tryz.results83, go_sem]) rfl (lex_no HY.out ((hbw.trans (b2.mono hsz)).alloc (by have := b2.size; omega) _))
            | some o =>
              obtain ⟨k, t, n⟩ := o
              rw [hw] at hW
              have hle := lxWord_le hw
              rw [len_drop] at hle
              have HY := Lib.hid (show lxGo f (i + n) (s.data.toList.drop (i + n)) (ts ++ [⟨k, t, i⟩]) = lexP s.data.toList by
                rw [← HR.out, ← List.drop_drop]
                exact (lxGo_word HD.out hbl h35 hw).symm)
              have hn0 : ((n : Int) == 0) = false := by simp; omega
              clear hbl h35 hw
              go_wp2_with fail
              refine (hK _).mono ?_
              rintro e w1 ⟨rfl, rfl⟩
              go_wp2_with fail
              refine (hW _).mono ?_
              rintro e w2 ⟨rfl, b2⟩
              unfold tokV
              have hown2 := own_below hown b2
              have hb2 := hbw.trans (b2.mono hsz)
              have hz2 : w.heap.size ≤ w2.heap.size := hb2.size
              go_wp2_with (at_builtin; refine wpList_append_own _ rfl _ _ 151 rfl w.heap.size 197 i0 (.agg #[.int .i64 0, .string ⟨#[]⟩, .int .i64 0]) 3 32 Tryz.underlying151 HI0.out HZ0.out HZ1.out HZ2.out rfl (by decide) _ _ _ rfl ((hown2.alloc _).alloc _) ⟨w2.heap.size + 1, 0, none⟩ 1 1 [.int .i64 k, .string ⟨t.toArray⟩, .int .i64 i] rfl rfl ?c1 ?c2 ?c3 ?c4 ?c5 ?_)
              case c1 => exact fun j u hj => by have := cell_three_new (w2.alloc (.cells #[.int .i64 k, .string ⟨t.toArray⟩, .int .i64 i] 197)) (.int .i64 k) (.string ⟨t.toArray⟩) (.int .i64 i) 197 j u hj; simpa using this
              case c2 => intro u hu; simp at hu; rcases hu with rfl | rfl | rfl <;> rfl
              case c3 => unfold maxLen; omega
              case c4 => omega
              case c5 => simp; omega
              intro v' w4 hown' hgrow _
              have hbw4 : Below w.heap.size w w4 := ((hb2.alloc (by omega) _).alloc (by simp; omega) _).grown hgrow (by simp; omega) (fun k hk => by have := (hown2.lt k hk).1; omega)
              have HOWN := Lib.hid hown'
              clear hown' hgrow
              go_wp2_with fail
              go_roundw
              case rel =>
                refine ⟨i + n, f, ts ++ [⟨k, t, i⟩], by go_num, by omega, by omega, by simp; omega, ?_, hbw4, HY.out⟩
                rw [tkCells_snoc, List.length_append]
                exact HOWN.out
              case measure => simp [intOf]; omega
      · have hd1 : decide ((i : Int) < s.size) = false := decide_eq_false (by omega)
        have HY := Lib.hid (show lexP s.data.toList = (ts, 0, 0) by rw [← HR.out, drop_end s i hil, lxGo_nil])
        go_wp2_with fail
        refine bodyPost_ret (v := .tuple #[_, .int .i64 (0 : Nat), .int .i64 (0 : Nat)]) (by simp [results, Tryz.results83, go_sem]; rfl) rfl ?_
        rw [HY.out]
        exact ⟨_, rfl, hown, hbw⟩

end Go.Proofs.YtkahnlgedacppaaGreatDoor
/-
  lex.All where its tokens are known; the document's example.
-/
namespace Go.Proofs.YtkahnlgedacppaaGreatDoor
open Go.RowKit

/-! ### enough fuel is enough -/
theorem lxGo_fuel : ∀ (n f g a : Nat) (l : List UInt8) (acc : List Tk), l.length ≤ n → l.length ≤ f → l.length ≤ g → lxGo f a l acc = lxGo g a l acc
  | _, _, _, _, [], _, _, _, _ => by rw [lxGo_nil, lxGo_nil]
  | 0, _, _, _, _ :: _, _, h, _, _ => by simp at h
  | n + 1, f, g, a, b :: r, acc, h, hf, hg => by
    simp only [List.length_cons] at h hf hg
    obtain ⟨f, rfl⟩ : ∃ f', f = f' + 1 := ⟨f - 1, by omega⟩
    obtain ⟨g, rfl⟩ : ∃ g', g = g' + 1 := ⟨g - 1, by omega⟩
    cases hb : lxBlank b with
    | true =>
      rw [lxGo_blank _ _ _ _ _ hb, lxGo_blank _ _ _ _ _ hb]
      exact lxGo_fuel n f g _ r _ (by omega) (by omega) (by omega)
    | false =>
      cases h35 : (b == 35) with
      | true =>
        rw [lxGo_rem _ _ _ _ _ hb h35, lxGo_rem _ _ _ _ _ hb h35]
        have hp := lxRem_pos (r := r) h35
        have hd : ((b :: r).drop (lxRem (b :: r))).length ≤ r.length := by rw [List.length_drop, List.length_cons]; omega
        exact lxGo_fuel n f g _ _ _ (by omega) (by omega) (by omega)
      | false =>
        cases hw : lxWord (b :: r) with
        | none => rw [lxGo_none _ _ _ _ _ hb h35 hw, lxGo_none _ _ _ _ _ hb h35 hw]
        | some o =>
          obtain ⟨k, s, m⟩ := o
          rw [lxGo_some _ _ _ _ _ hb h35 hw, lxGo_some _ _ _ _ _ hb h35 hw]
          have hp := lxWord_le hw
          have hd : ((b :: r).drop m).length ≤ r.length := by rw [List.length_drop, List.length_cons]; omega
          exact lxGo_fuel n f g _ _ _ (by omega) (by omega) (by omega)
def lxG (a : Nat) (l : List UInt8) (acc : List Tk) : List Tk × Nat × Nat := lxGo l.length a l acc
theorem lxG_of (f a : Nat) (l : List UInt8) (acc : List Tk) (h : l.length ≤ f) : lxGo f a l acc = lxG a l acc := lxGo_fuel _ _ _ _ _ _ (Nat.le_refl _) h (Nat.le_refl _)
theorem lxG_nil (a : Nat) (acc : List Tk) : lxG a [] acc = (acc, 0, 0) := rfl
theorem lxG_blank (a : Nat) (b : UInt8) (r : List UInt8) (acc : List Tk) (h : lxBlank b = true) : lxG a (b :: r) acc = lxG (a + 1) r acc := by
  unfold lxG
  rw [List.length_cons, lxGo_blank _ _ _ _ _ h]
theorem lxG_some (a : Nat) (b : UInt8) (r : List UInt8) (acc : List Tk) (h : lxBlank b = false) (h2 : (b == 35) = false) {k : Nat} {s : List UInt8} {n : Nat} (hw : lxWord (b :: r) = some (k, s, n)) : lxG a (b :: r) acc = lxG (a + n) ((b :: r).drop n) (acc ++ [⟨k, s, a⟩]) := by
  show lxGo (r.length + 1) a (b :: r) acc = _
  rw [lxGo_some _ _ _ _ _ h h2 hw]
  have := lxWord_le hw
  exact lxG_of _ _ _ _ (by rw [List.length_drop, List.length_cons]; omega)
theorem lexP_G (l : List UInt8) (h : l.length ≤ 8000) : lexP l = lxG 0 l [] := by
  unfold lexP
  rw [if_neg (by omega)]
  exact lxG_of _ _ _ _ (by omega)

/-! ### what All answers where its tokens are known -/
end Go.Proofs.YtkahnlgedacppaaGreatDoor
/-
  Plain facts: what is quoted is unquoted; cut it is none.
-/
namespace Go.Proofs.YtkahnlgedacppaaGreatDoor
open Go.Lib

end Go.Proofs.YtkahnlgedacppaaGreatDoor
/-
  Plain facts: Unquote of Quote is the text; a quoted text that is cut is none.
-/
namespace Go.Proofs.YtkahnlgedacppaaGreatDoor
open Go.Lib

end Go.Proofs.YtkahnlgedacppaaGreatDoor
/-
  Values of package api as trees: what it is to read as one.
-/
namespace Go.Proofs.YtkahnlgedacppaaGreatDoor
open Go.RowKit

inductive JV where
  | mk (k : Int) (s : ByteArray) (ns : List ByteArray) (ps : List JV)

def JV.k : JV → Int
  | .mk k _ _ _ => k
def JV.s : JV → ByteArray
  | .mk _ s _ _ => s
def JV.ns : JV → List ByteArray
  | .mk _ _ ns _ => ns
def JV.ps : JV → List JV
  | .mk _ _ _ ps => ps

/-- A slice of strings that reads as ns, below block B. -/
def Strs (w : World) (B : Nat) (a : Option Addr) (ns : List ByteArray) : Prop :=
  0 < ns.length → ∃ b off, a = some ⟨b, off, none⟩ ∧ b < B ∧ ∀ j x, ns[j]? = some x → x.size ≤ 2000000 ∧ w.cell? ⟨b, off + j, none⟩ = some (.string x)

/-- Four cells of a value. -/
def Four (w : World) (b off : Nat) (c0 c1 c2 c3 : Value) : Prop :=
  w.cell? ⟨b, off, none⟩ = some c0 ∧ w.cell? ⟨b, off + 1, none⟩ = some c1 ∧ w.cell? ⟨b, off + 2, none⟩ = some c2 ∧ w.cell? ⟨b, off + 3, none⟩ = some c3

/-- A slice of values whose elements read by R. -/
def Rows4 (w : World) (B : Nat) (R : JV → Value → Prop) (a : Option Addr) (ps : List JV) : Prop :=
  0 < ps.length → ∃ b off, a = some ⟨b, off, none⟩ ∧ b < B ∧ ∀ i x, ps[i]? = some x → ∃ c0 c1 c2 c3, Four w b (off + i * 4) c0 c1 c2 c3 ∧ R x (.agg #[c0, c1, c2, c3])

/-- A value that reads as x, at most n deep, below block B. -/
def Rd (w : World) (B : Nat) : Nat → JV → Value → Prop
  | 0, _, _ => False
  | n + 1, x, v => ∃ an cn ap cp, v = .agg #[.int .i64 x.k, .string x.s, .slice an x.ns.length cn, .slice ap x.ps.length cp] ∧
      (x.s.size ≤ 2000000 ∧ x.ns.length ≤ 2000000 ∧ x.ps.length ≤ 2000000 ∧ x.ns.length ≤ cn ∧ x.ps.length ≤ cp) ∧ Strs w B an x.ns ∧ Rows4 w B (Rd w B n) ap x.ps

theorem Strs.keep {w w' : World} {B : Nat} {a : Option Addr} {ns : List ByteArray} (h : Strs w B a ns) (hk : ∀ b o, b < B → w'.cell? ⟨b, o, none⟩ = w.cell? ⟨b, o, none⟩) : Strs w' B a ns := fun hp => by
  obtain ⟨b, off, e, hb, hc⟩ := h hp
  exact ⟨b, off, e, hb, fun j x hx => ⟨(hc j x hx).1, (hk b _ hb).trans (hc j x hx).2⟩⟩

theorem Strs.more {w : World} {B B' : Nat} {a : Option Addr} {ns : List ByteArray} (h : Strs w B a ns) (hB : B ≤ B') : Strs w B' a ns := fun hp => by
  obtain ⟨b, off, e, hb, hc⟩ := h hp
  exact ⟨b, off, e, by omega, hc⟩

theorem Four.keep {w w' : World} {b off : Nat} {c0 c1 c2 c3 : Value} (h : Four w b off c0 c1 c2 c3) (hk : ∀ o, w'.cell? ⟨b, o, none⟩ = w.cell? ⟨b, o, none⟩) : Four w' b off c0 c1 c2 c3 :=
  ⟨(hk _).trans h.1, (hk _).trans h.2.1, (hk _).trans h.2.2.1, (hk _).trans h.2.2.2⟩

theorem Rd.keep {w w' : World} {B : Nat} (hk : ∀ b o, b < B → w'.cell? ⟨b, o, none⟩ = w.cell? ⟨b, o, none⟩) : ∀ {n : Nat} {x : JV} {v : Value}, Rd w B n x v → Rd w' B n x v
  | 0, _, _, h => h
  | _ + 1, _, _, h => by
    obtain ⟨an, cn, ap, cp, e, hz, hs, hr⟩ := h
    refine ⟨an, cn, ap, cp, e, hz, hs.keep hk, fun hp => ?_⟩
    obtain ⟨b, off, e, hb, hc⟩ := hr hp
    refine ⟨b, off, e, hb, fun i x hx => ?_⟩
    obtain ⟨c0, c1, c2, c3, h4, hR⟩ := hc i x hx
    exact ⟨c0, c1, c2, c3, h4.keep fun o => hk b o hb, Rd.keep hk hR⟩

theorem Rd.more {w : World} {B B' : Nat} (hB : B ≤ B') : ∀ {n : Nat} {x : JV} {v : Value}, Rd w B n x v → Rd w B' n x v
  | 0, _, _, h => h
  | _ + 1, _, _, h => by
    obtain ⟨an, cn, ap, cp, e, hz, hs, hr⟩ := h
    refine ⟨an, cn, ap, cp, e, hz, hs.more hB, fun hp => ?_⟩
    obtain ⟨b, off, e, hb, hc⟩ := hr hp
    refine ⟨b, off, e, by omega, fun i x hx => ?_⟩
    obtain ⟨c0, c1, c2, c3, h4, hR⟩ := hc i x hx
    exact ⟨c0, c1, c2, c3, h4, Rd.more hB hR⟩

theorem Rd.below {w w' : World} {B : Nat} {n : Nat} {x : JV} {v : Value} (h : Rd w B n x v) (hb : Below B w w') : Rd w' B n x v :=
  h.keep fun _ _ h => hb.cell (p := ⟨_, _, none⟩) h

theorem Rows4.keep {w w' : World} {B n : Nat} {a : Option Addr} {ps : List JV} (h : Rows4 w B (Rd w B n) a ps) (hk : ∀ b o, b < B → w'.cell? ⟨b, o, none⟩ = w.cell? ⟨b, o, none⟩) : Rows4 w' B (Rd w' B n) a ps := fun hp => by
  obtain ⟨b, off, e, hb, hc⟩ := h hp
  refine ⟨b, off, e, hb, fun i x hx => ?_⟩
  obtain ⟨c0, c1, c2, c3, h4, hR⟩ := hc i x hx
  exact ⟨c0, c1, c2, c3, h4.keep fun o => hk b o hb, Rd.keep hk hR⟩

theorem Rows4.below {w w' : World} {B n : Nat} {a : Option Addr} {ps : List JV} (h : Rows4 w B (Rd w B n) a ps) (hb : Below B w w') : Rows4 w' B (Rd w' B n) a ps :=
  h.keep fun _ _ h => hb.cell (p := ⟨_, _, none⟩) h
theorem Strs.below {w w' : World} {B : Nat} {a : Option Addr} {ns : List ByteArray} (h : Strs w B a ns) (hb : Below B w w') : Strs w' B a ns :=
  h.keep fun _ _ h => hb.cell (p := ⟨_, _, none⟩) h

theorem Rd.up {w : World} {B : Nat} : ∀ {n : Nat} {x : JV} {v : Value}, Rd w B n x v → Rd w B (n + 1) x v
  | 0, _, _, h => h.elim
  | _ + 1, _, _, h => by
    obtain ⟨an, cn, ap, cp, e, hz, hs, hr⟩ := h
    refine ⟨an, cn, ap, cp, e, hz, hs, fun hp => ?_⟩
    obtain ⟨b, off, e, hb, hc⟩ := hr hp
    refine ⟨b, off, e, hb, fun i x hx => ?_⟩
    obtain ⟨c0, c1, c2, c3, h4, hR⟩ := hc i x hx
    exact ⟨c0, c1, c2, c3, h4, Rd.up hR⟩

/-- The element at a place that there is. -/
theorem Rows4.at_ {w : World} {B : Nat} {R : JV → Value → Prop} {a : Option Addr} {ps : List JV} (h : Rows4 w B R a ps) {i : Nat} (hi : i < ps.length) :
    ∃ b off c0 c1 c2 c3, a = some ⟨b, off, none⟩ ∧ b < B ∧ Four w b (off + i * 4) c0 c1 c2 c3 ∧ R ps[i] (.agg #[c0, c1, c2, c3]) := by
  obtain ⟨b, off, e, hb, hc⟩ := h (by omega)
  obtain ⟨c0, c1, c2, c3, h4, hR⟩ := hc i _ (List.getElem?_eq_getElem hi)
  exact ⟨b, off, c0, c1, c2, c3, e, hb, h4, hR⟩
theorem Strs.at_ {w : World} {B : Nat} {a : Option Addr} {ns : List ByteArray} (h : Strs w B a ns) {i : Nat} (hi : i < ns.length) :
    ∃ b off, a = some ⟨b, off, none⟩ ∧ b < B ∧ ns[i].size ≤ 2000000 ∧ w.cell? ⟨b, off + i, none⟩ = some (.string ns[i]) := by
  obtain ⟨b, off, e, hb, hc⟩ := h (by omega)
  exact ⟨b, off, e, hb, hc i _ (List.getElem?_eq_getElem hi)⟩

theorem Rd.shape {w : World} {B n : Nat} {x : JV} {v : Value} (h : Rd w B n x v) : ∃ an cn ap cp, v = .agg #[.int .i64 x.k, .string x.s, .slice an x.ns.length cn, .slice ap x.ps.length cp] := by
  match n, h with
  | _ + 1, ⟨an, cn, ap, cp, e, _⟩ => exact ⟨an, cn, ap, cp, e⟩

/-- The element at a place that there is, its cells written out; in this world and in every later one. -/
theorem Rows4.elem {w : World} {B n : Nat} {a : Option Addr} {ps : List JV} (h : Rows4 w B (Rd w B n) a ps) {i : Nat} (hi : i < ps.length) {w' : World} (hb : Below B w w') :
    ∃ b off y an cn ap cp, Hid (ps[i] = y) ∧ a = some ⟨b, off, none⟩ ∧ b < B ∧ Rd w' B n y (.agg #[.int .i64 y.k, .string y.s, .slice an y.ns.length cn, .slice ap y.ps.length cp]) ∧
      w'.cell? ⟨b, off + i * 4, none⟩ = some (.int .i64 y.k) ∧ w'.cell? ⟨b, off + i * 4 + 1, none⟩ = some (.string y.s) ∧ w'.cell? ⟨b, off + i * 4 + 2, none⟩ = some (.slice an y.ns.length cn) ∧ w'.cell? ⟨b, off + i * 4 + 3, none⟩ = some (.slice ap y.ps.length cp) := by
  obtain ⟨b, off, c0, c1, c2, c3, e, hlt, h4, hR⟩ := (h.below hb).at_ hi
  obtain ⟨an, cn, ap, cp, ev⟩ := hR.shape
  injection ev with ev
  have ev' : [c0, c1, c2, c3] = [_, _, _, _] := congrArg Array.toList ev
  injection ev' with e0 ev'
  injection ev' with e1 ev'
  injection ev' with e2 ev'
  injection ev' with e3 _
  subst e0 e1 e2 e3
  exact ⟨b, off, ps[i], an, cn, ap, cp, Lib.hid rfl, e, hlt, hR, h4.1, h4.2.1, h4.2.2.1, h4.2.2.2⟩

end Go.Proofs.YtkahnlgedacppaaGreatDoor
/-
  What jval.checkNames answers: each is right UTF-8, none stands twice.
-/
namespace Go.Proofs.YtkahnlgedacppaaGreatDoor
open Go.RowKit Go.Maps Go.WideMaps

def vbl (x : ByteArray) : List UInt8 := x.data.toList
end Go.Proofs.YtkahnlgedacppaaGreatDoor
/-
  What jval.checkLeaf, checkSelf, checkAt and Check answer.
-/
namespace Go.Proofs.YtkahnlgedacppaaGreatDoor
open Go.RowKit

end Go.Proofs.YtkahnlgedacppaaGreatDoor
/-
  What jval.writeValue, writeParts and Text write.
-/
namespace Go.Proofs.YtkahnlgedacppaaGreatDoor
open Go.RowKit
set_option linter.unusedSimpArgs false

theorem only_below {w w' : World} (h : Below w.heap.size w w') (row : Option Nat) : w.grownBy w' row := ⟨h.os, h.tape, h.output, h.size, fun i hi _ => h.block i hi⟩

theorem BldAt.below {T : TypeId} {B b : Nat} {p : Value} {rest bs : List Value} {w w' : World} (h : BldAt T B b p rest bs w) (hb : Below w.heap.size w w') : BldAt T B b p rest bs w' := by
  have hlt := h.lt
  obtain ⟨hB, v, hbk, hown, hne⟩ := h
  exact ⟨hB, v, (hb.block b hlt).trans hbk, hown.kept (only_below hb none) (by cases hv : v.ownBlock <;> simp), hne⟩
theorem Bld.below {T : TypeId} {B b : Nat} {rest bs : List Value} {w w' : World} (h : Bld T B b rest bs w) (hb : Below w.heap.size w w') : Bld T B b rest bs w' :=
  h.elim (fun x => .inl (x.below hb)) (fun x => .inr (x.below hb))
theorem kept_below {e : TypeId} {b : Option Nat} {w w' : World} (hb : Below w.heap.size w w') : Lib.OthersKept e b w w' := fun k o hk _ _ => by
  have hlt : k < w.heap.size := (Array.getElem?_eq_some_iff.1 hk).1
  exact (hb.block k hlt).trans hk

def Wrote (B b : Nat) (l : List UInt8) (w : World) (e : Ending) (w' : World) : Prop :=
  e = .returned (.tuple #[]) ∧ Bld 130 B b [] (Lib.byteCells l) w' ∧ Below B w w' ∧ Lib.OthersKept 5 (some b) w w'

/-- The state inside a round: the builder, the value's box, the element's box. -/
structure StT (B b kb ke : Nat) (bx ex : Array Value) (l : List UInt8) (wr W : World) : Prop where
  bld : Bld 130 B b [] (Lib.byteCells l) W
  bel : Below B wr W
  kep : Lib.OthersKept 5 (some b) wr W
  box : W.heap[kb]? = some (.cells bx 52 (0, 0))
  el : W.heap[ke]? = some (.cells ex 52 (0, 0))
  le : B ≤ W.heap.size

theorem cells_ne (bx : Array Value) : ∀ c fz, (Obj.cells bx 52 (0, 0)) ≠ .cells c 5 fz := by
  intro c fz h
  injection h with _ h
  exact absurd h (by decide)

theorem StT.write {B b kb ke : Nat} {bx ex : Array Value} {l l' : List UInt8} {wr W W' : World} (h : StT B b kb ke bx ex l wr W) (hkb : kb ≠ b) (hke : ke ≠ b)
    (h1 : Bld 130 B b [] (Lib.byteCells l') W') (h2 : Below B W W') (h3 : Lib.OthersKept 5 (some b) W W') : StT B b kb ke bx ex l' wr W' :=
  ⟨h1, h.bel.trans h2, h.kep.trans h3, h3 kb _ h.box (by simpa using hkb) (cells_ne bx), h3 ke _ h.el (by simpa using hke) (cells_ne ex), Nat.le_trans h.le h2.size⟩
theorem StT.below {B b kb ke : Nat} {bx ex : Array Value} {l : List UInt8} {wr W W' : World} (h : StT B b kb ke bx ex l wr W) (hb : Below W.heap.size W W') : StT B b kb ke bx ex l wr W' :=
  ⟨h.bld.below hb, h.bel.trans (hb.mono h.le), h.kep.trans (kept_below hb), (hb.block kb (Array.getElem?_eq_some_iff.1 h.box).1).trans h.box, (hb.block ke (Array.getElem?_eq_some_iff.1 h.el).1).trans h.el, Nat.le_trans h.le hb.size⟩
end Go.Proofs.YtkahnlgedacppaaGreatDoor
