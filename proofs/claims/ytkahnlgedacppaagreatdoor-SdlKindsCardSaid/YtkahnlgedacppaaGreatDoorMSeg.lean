/-
  A text that is written out, read ahead of any other: by the kernel.
-/
import Derived.Test.YtkahnlgedacppaaGreatDoorMText
namespace Go.Proofs.YtkahnlgedacppaaGreatDoor
open Go.RowKit

theorem sq_lxWord_c (b : UInt8) (r : List UInt8) : lxWord (b :: r) = if letU b then lxName (b :: r) else if b == 45 || digU b then lxNum (b :: r) else if Lib.hasPrefix (b :: r) lxFence then lxBlock (b :: r) else if b == 34 then lxQuoted (b :: r) else lxSign (b :: r) := rfl
theorem sq_word_name {l : List UInt8} {b : UInt8} {r : List UInt8} (hl : l = b :: r) (h : letU b = true) : lxWord l = lxName l := by
  subst hl
  rw [sq_lxWord_c, if_pos h]
theorem sq_tw_take (p : UInt8 → Bool) (l : List UInt8) : l.take (l.takeWhile p).length = l.takeWhile p := by
  have e := List.take_left (l₁ := l.takeWhile p) (l₂ := l.dropWhile p)
  rwa [List.takeWhile_append_dropWhile] at e
theorem sq_tw_app (p : UInt8 → Bool) (u X : List UInt8) (hu : ∀ b ∈ u, p b = true) (hX : ∀ c, X.head? = some c → p c = false) : (u ++ X).takeWhile p = u := by
  induction u with
  | nil =>
    cases X with
    | nil => rfl
    | cons c X => rw [List.nil_append, List.takeWhile_cons, if_neg (by rw [hX c rfl]; decide)]
  | cons b u ih => rw [List.cons_append, List.takeWhile_cons, if_pos (hu b (by simp)), ih (fun c hc => hu c (by simp [hc]))]
theorem sq_tw_all (p : UInt8 → Bool) : ∀ l : List UInt8, ∀ b ∈ l.takeWhile p, p b = true
  | [], _, h => by simp at h
  | a :: l, b, h => by
    rw [List.takeWhile_cons] at h
    split at h
    · rename_i ha
      rcases List.mem_cons.1 h with rfl | h
      · exact ha
      · exact sq_tw_all p l b h
    · simp at h
theorem sq_word_num {l : List UInt8} {b : UInt8} {r : List UInt8} (hl : l = b :: r) (h : letU b = false) (h2 : (b == 45 || digU b) = true) : lxWord l = lxNum l := by
  subst hl
  rw [sq_lxWord_c, if_neg (by rw [h]; decide), if_pos h2]
theorem sq_qpre_take {l k : List UInt8} : Lib.hasPrefix l k = (l.take k.length == k) := by
  rw [Bool.eq_iff_iff, beq_iff_eq]
  constructor
  · intro e
    exact (List.prefix_iff_eq_take.1 (List.isPrefixOf_iff_prefix.1 e)).symm
  · intro e
    exact List.isPrefixOf_iff_prefix.2 (List.prefix_iff_eq_take.2 e.symm)
theorem sq_pre_same (l X k : List UInt8) (m : Nat) (h1 : k.length ≤ m) (h2 : m ≤ l.length) : Lib.hasPrefix (l.take m ++ X) k = Lib.hasPrefix l k := by
  rw [sq_qpre_take, sq_qpre_take, List.take_append, List.take_take, Nat.min_eq_left h1, show k.length - (l.take m).length = 0 by rw [List.length_take]; omega, List.take_zero, List.append_nil]
theorem sq_cut_same : ∀ (f i : Nat) (acc l raw : List UInt8) (n : Nat), lxCut f i acc l = some (raw, n) → ∃ m, n = i + m ∧ 3 ≤ m ∧ m ≤ l.length ∧ ∀ f' X, m ≤ f' → lxCut f' i acc (l.take m ++ X) = some (raw, n)
  | 0, _, _, _, _, _, h => by simp [lxCut] at h
  | _ + 1, _, _, [], _, _, h => by simp [lxCut] at h
  | f + 1, i, acc, b :: r, raw, n, h => by
    unfold lxCut at h
    split at h
    · rename_i hp
      have hl := (List.isPrefixOf_iff_prefix.1 hp).length_le
      have h3 : lxFence.length = 3 := rfl
      simp only [Option.some.injEq, Prod.mk.injEq] at h
      obtain ⟨rfl, rfl⟩ := h
      refine ⟨3, rfl, Nat.le_refl _, by omega, fun f' X hf => ?_⟩
      obtain ⟨f', rfl⟩ : ∃ g, f' = g + 1 := ⟨f' - 1, by omega⟩
      have hs := sq_pre_same (b :: r) X lxFence 3 (by omega) (by omega)
      rw [hp] at hs
      rw [List.take_succ_cons, List.cons_append] at hs ⊢
      rw [lxCut, if_pos hs]
    · rename_i hp
      split at h
      · rename_i he
        have hl := (List.isPrefixOf_iff_prefix.1 he).length_le
        have h4 : lxEsc.length = 4 := rfl
        obtain ⟨m, h1, h2, h3, h5⟩ := sq_cut_same f _ _ _ _ _ h
        rw [List.length_drop] at h3
        rw [List.length_cons] at hl
        refine ⟨m + 4, by omega, by omega, by rw [List.length_cons]; omega, fun f' X hf => ?_⟩
        obtain ⟨f', rfl⟩ : ∃ g, f' = g + 1 := ⟨f' - 1, by omega⟩
        have hs := sq_pre_same (b :: r) X lxFence (m + 4) (by show 3 ≤ _; omega) (by rw [List.length_cons]; omega)
        have hs2 := sq_pre_same (b :: r) X lxEsc (m + 4) (by show 4 ≤ _; omega) (by rw [List.length_cons]; omega)
        rw [he] at hs2
        rw [show Lib.hasPrefix (b :: r) lxFence = false by simpa using hp] at hs
        rw [List.take_succ_cons, List.cons_append] at hs hs2 ⊢
        rw [lxCut, if_neg (by rw [hs]; decide), if_pos hs2]
        have hd : (r.take (m + 3) ++ X).drop 3 = (r.drop 3).take m ++ X := by
          rw [List.drop_append, List.drop_take, show 3 - (r.take (m + 3)).length = 0 by rw [List.length_take]; omega, List.drop_zero, show m + 3 - 3 = m by omega]
        rw [hd]
        exact h5 f' X (by omega)
      · rename_i he
        obtain ⟨m, h1, h2, h3, h5⟩ := sq_cut_same f _ _ _ _ _ h
        refine ⟨m + 1, by omega, by omega, by rw [List.length_cons]; omega, fun f' X hf => ?_⟩
        obtain ⟨f', rfl⟩ : ∃ g, f' = g + 1 := ⟨f' - 1, by omega⟩
        have hs := sq_pre_same (b :: r) X lxFence (m + 1) (by show 3 ≤ _; omega) (by rw [List.length_cons]; omega)
        have hs2 := sq_pre_same (b :: r) X lxEsc (m + 1) (by show 4 ≤ _; omega) (by rw [List.length_cons]; omega)
        rw [show Lib.hasPrefix (b :: r) lxFence = false by simpa using hp] at hs
        rw [show Lib.hasPrefix (b :: r) lxEsc = false by simpa using he] at hs2
        rw [List.take_succ_cons, List.cons_append] at hs hs2 ⊢
        rw [lxCut, if_neg (by rw [hs]; decide), if_neg (by rw [hs2]; decide)]
        exact h5 f' X (by omega)
theorem sq_qs_same : ∀ (d : Nat) (l : List UInt8) (i : Nat), l.length ≤ d → lxQs i l ≠ 0 → ∃ m, lxQs i l = i + m ∧ 1 ≤ m ∧ m ≤ l.length ∧ ∀ X, lxQs i (l.take m ++ X) = i + m
  | _, [], _, _, h => absurd rfl h
  | 0, _ :: _, _, h, _ => by simp at h
  | d + 1, b :: r, i, hd, h => by
    rw [List.length_cons] at hd
    rw [lxQs_cons] at h ⊢
    by_cases h34 : b = 34
    · refine ⟨1, by rw [if_pos h34], Nat.le_refl _, by simp, fun X => ?_⟩
      rw [List.take_succ_cons, List.take_zero, List.cons_append, lxQs_cons, if_pos h34]
    · rw [if_neg h34] at h ⊢
      by_cases h92 : b = 92
      · rw [if_pos h92] at h ⊢
        cases r with
        | nil => exact absurd rfl h
        | cons c r =>
          rw [List.length_cons] at hd
          rw [List.drop_succ_cons, List.drop_zero] at h ⊢
          obtain ⟨m, h1, h2, h3, h4⟩ := sq_qs_same d r (i + 2) (by omega) h
          refine ⟨m + 2, by omega, by omega, by simp only [List.length_cons]; omega, fun X => ?_⟩
          rw [List.take_succ_cons, List.take_succ_cons, List.cons_append, List.cons_append, lxQs_cons, if_neg h34, if_pos h92, List.drop_succ_cons, List.drop_zero, h4]
          omega
      · rw [if_neg h92] at h ⊢
        by_cases he : lxEnd b = true
        · rw [if_pos he] at h
          exact absurd rfl h
        · rw [if_neg he] at h ⊢
          obtain ⟨m, h1, h2, h3, h4⟩ := sq_qs_same d r (i + 1) (by omega) h
          refine ⟨m + 1, by omega, by omega, by rw [List.length_cons]; omega, fun X => ?_⟩
          rw [List.take_succ_cons, List.cons_append, lxQs_cons, if_neg h34, if_neg h92, if_neg he, h4]
          omega
theorem sq_word_sign {l : List UInt8} {b : UInt8} {r : List UInt8} (hl : l = b :: r) (h : letU b = false) (h2 : (b == 45 || digU b) = false) (h3 : (b == 34) = false) : lxWord l = lxSign l := by
  subst hl
  have hf : Lib.hasPrefix (b :: r) lxFence = false := by
    have e : Lib.hasPrefix (b :: r) lxFence = ((34 : UInt8) == b && Lib.hasPrefix r [34, 34]) := rfl
    rw [e, show ((34 : UInt8) == b) = (b == 34) from Bool.eq_iff_iff.2 (by simp only [beq_iff_eq]; exact eq_comm), h3]
    rfl
  rw [sq_lxWord_c, if_neg (by rw [h]; decide), if_neg (by rw [h2]; decide), if_neg (by rw [hf]; decide), if_neg (by rw [h3]; decide)]
/-- May c stand behind what begins with b? -/
def bhOk (b c : UInt8) : Bool := if letU b || (b == 45 || digU b) then !nbU c else if b == 34 then !(c == 34) else true
theorem word_beh {b : UInt8} {r : List UInt8} {k : Nat} {t : List UInt8} {n : Nat} (h : lxWord (b :: r) = some (k, t, n)) (X : List UInt8) (hX : ∀ c, X.head? = some c → bhOk b c = true) : lxWord ((b :: r).take n ++ X) = some (k, t, n) := by
    have hle := lxWord_le h
    have hXb : (letU b || (b == 45 || digU b)) = true → ∀ c, X.head? = some c → nbU c = false := fun hb c hc => by
      have := hX c hc
      unfold bhOk at this
      rw [if_pos hb] at this
      simpa using this
    have hX34 : b = 34 → ∀ c, X.head? = some c → c ≠ 34 := fun hb c hc => by
      have := hX c hc
      subst hb
      unfold bhOk at this
      rw [if_neg (by decide), if_pos (by decide)] at this
      simpa using this
    have hXm : letU b = true → ∀ c, X.head? = some c → nmU c = false := fun hb c hc => by
      have := hXb (by rw [hb]; rfl) c hc
      unfold nbU at this
      simp only [Bool.or_eq_false_iff] at this
      exact this.1.1.1
    obtain ⟨n, rfl⟩ : ∃ n', n = n' + 1 := ⟨n - 1, by omega⟩
    have hc : (b :: r).take (n + 1) ++ X = b :: (r.take n ++ X) := by rw [List.take_succ_cons, List.cons_append]
    cases h1 : letU b with
    | true =>
      rw [sq_word_name rfl h1] at h
      rw [hc, sq_word_name rfl h1, ← hc]
      unfold lxName at h ⊢
      split at h
      · rename_i hn
        simp only [Option.some.injEq, Prod.mk.injEq] at h
        obtain ⟨rfl, rfl, h3⟩ := h
        rw [← h3, sq_tw_take, sq_tw_app nmU _ X (fun c hc => sq_tw_all nmU _ c hc) (hXm h1), if_pos hn]
      · cases h
    | false =>
      cases h2 : (b == 45 || digU b) with
      | true =>
        rw [sq_word_num rfl h1 h2] at h
        rw [hc, sq_word_num rfl h1 h2, ← hc]
        unfold lxNum at h ⊢
        split at h
        · rename_i hn
          simp only [Option.some.injEq, Prod.mk.injEq] at h
          obtain ⟨h0, rfl, h3⟩ := h
          rw [← h3, sq_tw_take, sq_tw_app nbU _ X (fun c hc => sq_tw_all nbU _ c hc) (hXb (by rw [h1, h2]; rfl)), if_pos hn, h0]
        · cases h
      | false =>
        cases h3 : (b == 34) with
        | true =>
          obtain rfl : b = 34 := beq_iff_eq.1 h3
          rw [sq_lxWord_c, if_neg (by decide), if_neg (by decide)] at h
          rw [hc, sq_lxWord_c, if_neg (by decide), if_neg (by decide), ← hc]
          cases hf : Lib.hasPrefix (34 :: r) lxFence with
          | true =>
            rw [hf, if_pos rfl] at h
            unfold lxBlock at h
            split at h
            · cases h
            · rename_i raw m hcut
              split at h
              · rename_i hraw
                simp only [Option.some.injEq, Prod.mk.injEq] at h
                obtain ⟨rfl, rfl, rfl⟩ := h
                obtain ⟨m, e1, e2, e3, e4⟩ := sq_cut_same _ _ _ _ _ _ hcut
                have hln : n + 1 ≤ (34 :: r).length := hle.2
                rw [sq_pre_same (34 :: r) X lxFence (n + 1) (by show 3 ≤ _; omega) hln, hf, if_pos rfl]
                have hd : ((34 :: r).take (n + 1) ++ X).drop 3 = ((34 :: r).drop 3).take m ++ X := by
                  rw [List.drop_append, List.drop_take, show 3 - ((34 :: r).take (n + 1)).length = 0 by rw [List.length_take]; omega, List.drop_zero, show n + 1 - 3 = m by omega]
                unfold lxBlock
                rw [hd, e4 _ X (by rw [List.length_append, List.length_take]; omega)]
                show (if lxRaw raw = true then _ else _) = _
                rw [if_pos hraw]
              · cases h
          | false =>
            rw [hf, if_neg (by decide), if_pos (by decide)] at h
            unfold lxQuoted at h
            split at h
            · cases h
            · rename_i t' hu
              simp only [Option.some.injEq, Prod.mk.injEq] at h
              obtain ⟨rfl, rfl, hN⟩ := h
              have hN' : lxQs 1 r = n + 1 := hN
              obtain ⟨m, e1, e2, e3, e4⟩ := sq_qs_same _ r 1 (Nat.le_refl _) (by omega)
              obtain rfl : n = m := by omega
              have hq : lxQn ((34 :: r).take (n + 1) ++ X) = n + 1 := by
                rw [hc]
                show lxQs 1 (r.take n ++ X) = n + 1
                rw [e4]
                omega
              have hfn : Lib.hasPrefix ((34 :: r).take (n + 1) ++ X) lxFence = false := by
                by_cases h3 : 3 ≤ n + 1
                · rw [sq_pre_same (34 :: r) X lxFence (n + 1) h3 (by rw [List.length_cons]; omega), hf]
                · obtain rfl : n = 1 := by omega
                  cases r with
                  | nil => simp at e3
                  | cons c r =>
                    show Lib.hasPrefix (34 :: c :: X) lxFence = false
                    cases X with
                    | nil => simp [Lib.hasPrefix, lxFence, List.isPrefixOf]
                    | cons x X =>
                      have := hX34 rfl x rfl
                      simp [Lib.hasPrefix, lxFence, List.isPrefixOf, Ne.symm this]
              rw [hfn, if_neg (by decide), if_pos (by decide)]
              have ht : ((34 :: r).take (n + 1) ++ X).take (n + 1) = (34 :: r).take (n + 1) := by
                exact List.take_left' (by rw [List.length_take, List.length_cons]; omega)
              unfold lxQuoted
              rw [hq, ht]
              rw [show lxQn (34 :: r) = n + 1 from hN] at hu
              rw [hu]
        | false =>
          rw [sq_word_sign rfl h1 h2 h3] at h
          rw [hc, sq_word_sign rfl h1 h2 h3, ← hc]
          unfold lxSign at h
          split at h
          · rename_i hp
            simp only [Option.some.injEq, Prod.mk.injEq] at h
            obtain ⟨rfl, rfl, h5⟩ := h
            unfold lxSign
            rw [sq_pre_same (b :: r) X lxDots (n + 1) (by show 3 ≤ _; omega) hle.2, if_pos hp, h5]
          · simp only at h
            split at h
            · rename_i hs
              simp only [Option.some.injEq, Prod.mk.injEq] at h
              obtain ⟨rfl, rfl, h5⟩ := h
              obtain rfl : n = 0 := by omega
              rw [hc, List.take_zero, List.nil_append]
              have hnd : Lib.hasPrefix (b :: X) lxDots = false := by
                have hb : b ≠ 46 := fun e => by subst e; revert hs; decide
                have e : Lib.hasPrefix (b :: X) lxDots = ((46 : UInt8) == b && Lib.hasPrefix X [46, 46]) := rfl
                rw [e, beq_eq_false_iff_ne.2 (Ne.symm hb)]
                rfl
              unfold lxSign
              rw [hnd, if_neg (by decide)]
              show (if signsS.data.toList.contains b = true then _ else _) = _
              rw [if_pos hs]
            · cases h


/-- Is what begins with b at its end, where this stands behind it? -/
def ndOk (b : UInt8) : List UInt8 → Bool
  | [] => !(letU b || (b == 45 || digU b)) && !(b == 34)
  | c :: _ => bhOk b c
/-- The tokens of a text, where each of them is read so whatever stands behind the text; by fuel. -/
def segT : Nat → Nat → List UInt8 → Option (List Tk)
  | 0, _, _ => none
  | _ + 1, _, [] => some []
  | f + 1, a, b :: r =>
    if lxBlank b then segT f (a + 1) r
    else if b == 35 then none
    else match lxWord (b :: r) with
      | none => none
      | some (k, s, n) => if ndOk b ((b :: r).drop n) then (segT f (a + n) ((b :: r).drop n)).map (⟨k, s, a⟩ :: ·) else none
def shT (a : Nat) (t : Tk) : Tk := ⟨t.k, t.s, a + t.at_⟩
theorem segT_ok : ∀ (f a0 : Nat) (l : List UInt8) (ts : List Tk), segT f a0 l = some ts → ∀ (a : Nat) (X : List UInt8) (acc : List Tk), lxG (a + a0) (l ++ X) acc = lxG (a + a0 + l.length) X (acc ++ ts.map (shT a))
  | 0, _, _, _, h => by cases h
  | _ + 1, _, [], ts, h => fun a X acc => by
    have : ts = [] := (Option.some.inj h).symm
    subst this
    simp
  | f + 1, a0, b :: r, ts, h => fun a X acc => by
    unfold segT at h
    split at h
    · rename_i hb
      have := segT_ok f (a0 + 1) r ts h a X acc
      rw [List.cons_append, lxG_blank _ _ _ _ hb, Nat.add_assoc, this]
      congr 1
      rw [List.length_cons]; omega
    · rename_i hb
      split at h
      · cases h
      · rename_i h35
        split at h
        · cases h
        · rename_i k s n hw
          split at h
          · rename_i hc
            have hle := lxWord_le hw
            cases hs : segT f (a0 + n) ((b :: r).drop n) with
            | none => rw [hs] at h; cases h
            | some ts' =>
              rw [hs] at h
              have e : ts = ⟨k, s, a0⟩ :: ts' := (Option.some.inj h).symm
              subst e
              have ih := segT_ok f (a0 + n) ((b :: r).drop n) ts' hs a X (acc ++ [⟨k, s, a + a0⟩])
              have hX : ∀ c, ((b :: r).drop n ++ X).head? = some c → bhOk b c = true := fun c h1 => by
                cases hd : (b :: r).drop n with
                | nil =>
                  rw [hd] at hc
                  unfold ndOk at hc
                  simp only [Bool.and_eq_true, Bool.not_eq_true'] at hc
                  unfold bhOk
                  rw [if_neg (by rw [hc.1]; decide), if_neg (by rw [hc.2]; decide)]
                | cons d q =>
                  rw [hd] at hc h1
                  injection h1 with h1
                  subst h1
                  exact hc
              have hwX := word_beh hw ((b :: r).drop n ++ X) hX
              have hE : (b :: r).take n ++ ((b :: r).drop n ++ X) = b :: (r ++ X) := by rw [← List.append_assoc, List.take_append_drop, List.cons_append]
              rw [hE] at hwX
              rw [List.cons_append, lxG_some _ _ _ _ (by simpa using hb) (by simpa using h35) hwX]
              have hD : (b :: (r ++ X)).drop n = (b :: r).drop n ++ X := by
                rw [← List.cons_append, List.drop_append_of_le_length hle.2]
              rw [hD, Nat.add_assoc, ih]
              rw [List.map_cons, List.append_assoc]
              congr 1
              rw [List.length_drop]
              have := hle.2
              omega
          · cases h
/-- A text by itself. -/
theorem segT_all {f : Nat} {l : List UInt8} {ts : List Tk} (h : segT f 0 l = some ts) (a : Nat) (X : List UInt8) (acc : List Tk) : lxG a (l ++ X) acc = lxG (a + l.length) X (acc ++ ts.map (shT a)) := segT_ok f 0 l ts h a X acc

end Go.Proofs.YtkahnlgedacppaaGreatDoor
