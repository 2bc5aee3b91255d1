/-
  Unlike values have unlike texts: a value's text, with what may stand behind it, says the value.
-/
import Derived.Test.YtbcenaljaoejkaaDoorText2
import Derived.Test.YtbcenaljaoejkaaDoorNumForms
import Derived.Test.YtbcenaljaoejkaaDoorMJb
import Derived.Test.YtbcenaljaoejkaaDoorMPs6
import Derived.Test.YtbcenaljaoejkaaDoorVal
import Derived.BigQuiet
import Derived.Deep.Cut
import Derived.Deep.LoopGhost
import Derived.Deep.RegionWith
import Derived.Deep.QuietTactic
import Derived.StillTailTactics
import Derived.Test.YtbcenaljaoejkaaDoorMJa
namespace Go.Proofs.YtbcenaljaoejkaaDoor
open Go.RowKit

/-! ### Numbers -/
def numC (b : UInt8) : Bool := digU b || b == 45 || b == 46 || b == 43 || b == 101 || b == 69
theorem taken {p : UInt8 → Bool} : ∀ {l : List UInt8} {b : UInt8}, b ∈ l.takeWhile p → p b = true
  | [], _, h => by cases h
  | a :: t, b, h => by
    rw [List.takeWhile_cons] at h
    split at h
    · rcases List.mem_cons.1 h with e | e
      · subst e; assumption
      · exact taken e
    · cases h
theorem dd_all {l : List UInt8} (h : (dd l).all numC = true) : l.all numC = true := by
  unfold dd at h
  rw [← List.takeWhile_append_dropWhile (p := digU) (l := l), List.all_append, h, Bool.and_true, List.all_eq_true]
  intro b hb
  have := taken hb
  unfold numC
  rw [this]
  rfl
theorem trim_all {l : List UInt8} {c : UInt8} (hc : numC c = true) (h : (Lib.trimPrefix l [c]).all numC = true) : l.all numC = true := by
  unfold Lib.trimPrefix Lib.hasPrefix at h
  split at h
  · rename_i hp
    cases l with
    | nil => rfl
    | cons a t =>
      simp [List.isPrefixOf] at hp
      subst hp
      simp at h
      rw [List.all_cons, hc, Bool.true_and, List.all_eq_true]
      exact h
  · exact h
theorem num_all {l : List UInt8} (h : numOk l = true) : l.all numC = true := by
  unfold numOk at h
  simp only [Bool.and_eq_true] at h
  obtain ⟨_, ⟨⟨h1, h2⟩, h3⟩, h4⟩ := h
  have e0 : (numE l).1.all numC = true := by
    cases he : (numE l).1 with
    | nil => rfl
    | cons a t => rw [he] at h4; cases h4
  have e1 : (numF l).1.all numC = true := by
    unfold numE cutExponentP at e0
    split at e0
    · rename_i hb
      have h5 := dd_all e0
      cases hl : (numF l).1 with
      | nil => rfl
      | cons a t =>
        rw [hl] at hb h5
        have ha : numC a = true := by
          unfold beginB at hb
          simp at hb
          rcases hb with e | e <;> subst e <;> decide
        rw [List.all_cons, ha, Bool.true_and]
        unfold signCut at h5
        simp only [List.drop_succ_cons, List.drop_zero] at h5
        split at h5
        · rename_i hs
          cases t with
          | nil => rfl
          | cons c r =>
            have hc : numC c = true := by
              unfold beginB at hs
              simp at hs
              rcases hs with e | e <;> subst e <;> decide
            rw [List.all_cons, hc, Bool.true_and]
            simpa using h5
        · exact h5
    · exact e0
  have e2 : (numW l).1.all numC = true := by
    unfold numF cutFractionP at e1
    split at e1
    · exact trim_all (by decide) (dd_all e1)
    · exact e1
  unfold numW cutWholeP at e2
  split at e2
  · exact trim_all (c := 45) (by decide) (trim_all (by decide) e2)
  · exact trim_all (c := 45) (by decide) (dd_all e2)
theorem num_head {l : List UInt8} (h : numOk l = true) : ∃ a t, l = a :: t ∧ (digU a || a == 45) = true := by
  unfold numOk at h
  simp only [Bool.and_eq_true] at h
  obtain ⟨_, ⟨⟨h1, _⟩, _⟩, _⟩ := h
  cases l with
  | nil => exact absurd h1 (by decide)
  | cons a t =>
    refine ⟨a, t, rfl, ?_⟩
    by_cases ha : a = 45
    · subst ha; simp
    · have e : Lib.trimPrefix (a :: t) [45] = a :: t := by
        unfold Lib.trimPrefix Lib.hasPrefix
        rw [if_neg]
        simp [List.isPrefixOf]
        exact fun e => ha e.symm
      unfold numW at h1
      rw [e] at h1
      unfold cutWholeP at h1
      split at h1
      · rename_i hp
        simp [Lib.hasPrefix, List.isPrefixOf] at hp
        subst hp
        rfl
      · unfold cutDigitsP dd at h1
        simp only [decide_eq_true_eq] at h1
        cases hd : digU a with
        | true => rfl
        | false =>
          rw [List.dropWhile_cons, hd] at h1
          simp at h1

/-- What may stand behind a value. -/
def stopB (r : List UInt8) : Bool := match r with
  | [] => true
  | b :: _ => b == 44 || b == 93 || b == 125
theorem stop_not {b : UInt8} (h : (b == 44 || b == 93 || b == 125) = true) : numC b = false := by
  simp only [Bool.or_eq_true, beq_iff_eq] at h
  rcases h with (h | h) | h <;> subst h <;> decide
theorem run_cut : ∀ (l m r r' : List UInt8), l.all numC = true → m.all numC = true → stopB r = true → stopB r' = true → l ++ r = m ++ r' → l = m ∧ r = r'
  | [], [], r, r', _, _, _, _, e => ⟨rfl, by simpa using e⟩
  | [], b :: m, r, r', _, hm, hr, _, e => by
    exfalso
    simp only [List.nil_append, List.cons_append] at e
    subst e
    have := stop_not hr
    simp only [List.all_cons, Bool.and_eq_true] at hm
    rw [hm.1] at this
    cases this
  | a :: l, [], r, r', hl, _, _, hr', e => by
    exfalso
    simp only [List.nil_append, List.cons_append] at e
    subst e
    have := stop_not hr'
    simp only [List.all_cons, Bool.and_eq_true] at hl
    rw [hl.1] at this
    cases this
  | a :: l, b :: m, r, r', hl, hm, hr, hr', e => by
    simp only [List.cons_append, List.cons.injEq] at e
    simp only [List.all_cons, Bool.and_eq_true] at hl hm
    obtain ⟨e1, e2⟩ := run_cut l m r r' hl.2 hm.2 hr hr' e.2
    exact ⟨by rw [e.1, e1], e2⟩

/-! ### Texts in quotes -/
/-- Read back what was made of one byte. -/
def hexVI (b : UInt8) : Nat := if b.toNat < 58 then b.toNat - 48 else b.toNat - 87
def backC (c : UInt8) : Nat := if c = 98 then 8 else if c = 116 then 9 else if c = 110 then 10 else if c = 102 then 12 else if c = 114 then 13 else c.toNat
def unesc : List UInt8 → Nat × List UInt8
  | [] => (0, [])
  | a :: t => if a = 92 then (match t with
      | [] => (0, [])
      | c :: r => if c = 117 then (match r with
          | _ :: _ :: x :: y :: q => (hexVI x * 16 + hexVI y, q)
          | _ => (0, []))
        else (backC c, r))
    else (a.toNat, t)
def escOk (n : Nat) : Bool := match escB (UInt8.ofNat n) with
  | [a] => a != 92 && a != 34 && a.toNat == n
  | [a, c] => a == 92 && c != 117 && backC c == n
  | [a, c, _, _, x, y] => a == 92 && c == 117 && hexVI x * 16 + hexVI y == n
  | _ => false
theorem escOk_all : ∀ n : Fin 256, escOk n.val = true := by decide +kernel
theorem unesc_esc (b : UInt8) (t : List UInt8) : unesc (escB b ++ t) = (b.toNat, t) ∧ (escB b ++ t).head? ≠ some 34 := by
  have h := escOk_all ⟨b.toNat, b.toNat_lt⟩
  unfold escOk at h
  simp only [UInt8.ofNat_toNat] at h
  split at h
  · rename_i a e
    rw [e]
    simp only [Bool.and_eq_true, bne_iff_ne, ne_eq, beq_iff_eq] at h
    simp [unesc, h.1.1, h.1.2, h.2]
  · rename_i a c e
    rw [e]
    simp only [Bool.and_eq_true, bne_iff_ne, ne_eq, beq_iff_eq] at h
    obtain ⟨⟨h1, h2⟩, h3⟩ := h
    subst h1
    simp [unesc, h2, h3]
  · rename_i a c _ _ x y e
    rw [e]
    simp only [Bool.and_eq_true, beq_iff_eq] at h
    obtain ⟨⟨h1, h2⟩, h3⟩ := h
    subst h1 h2
    simp [unesc, h3]
  · cases h
theorem quote_cut : ∀ (l m r r' : List UInt8), quoteIn l ++ 34 :: r = quoteIn m ++ 34 :: r' → l = m ∧ r = r'
  | [], [], r, r', e => ⟨rfl, by simpa [quoteIn] using e⟩
  | [], b :: m, r, r', e => by
    exfalso
    have e' : 34 :: r = escB b ++ (quoteIn m ++ 34 :: r') := by simpa [quoteIn] using e
    have := (unesc_esc b (quoteIn m ++ 34 :: r')).2
    rw [← e'] at this
    exact this rfl
  | a :: l, [], r, r', e => by
    exfalso
    have e' : escB a ++ (quoteIn l ++ 34 :: r) = 34 :: r' := by simpa [quoteIn] using e
    have := (unesc_esc a (quoteIn l ++ 34 :: r)).2
    rw [e'] at this
    exact this rfl
  | a :: l, b :: m, r, r', e => by
    have e' : escB a ++ (quoteIn l ++ 34 :: r) = escB b ++ (quoteIn m ++ 34 :: r') := by simpa [quoteIn] using e
    have h1 := (unesc_esc a (quoteIn l ++ 34 :: r)).1
    rw [e', (unesc_esc b (quoteIn m ++ 34 :: r')).1] at h1
    injection h1 with h1 h2
    obtain ⟨e1, e2⟩ := quote_cut l m r r' h2.symm
    exact ⟨by rw [UInt8.toNat_inj.1 h1, e1], e2⟩
theorem quoteB_cut {l m r r' : List UInt8} (hl : Lib.validD l = true) (hm : Lib.validD m = true) (e : quoteB l ++ r = quoteB m ++ r') : l = m ∧ r = r' := by
  unfold quoteB at e
  rw [if_pos hl, if_pos hm] at e
  simp only [List.cons_append, List.append_assoc, List.cons.injEq, true_and, List.nil_append] at e
  exact quote_cut l m r r' e

/-! ### A value's first byte says its kind -/
def cls (a : UInt8) : Int := if a = 110 then 1 else if a = 116 ∨ a = 102 then 2 else if (digU a || a == 45) = true then 3 else if a = 34 then 5 else if a = 91 then 7 else if a = 123 then 8 else 0
theorem cls_num {a : UInt8} (h : (digU a || a == 45) = true) : cls a = 3 := by
  have h1 : a ≠ 110 := by rintro rfl; revert h; decide
  have h2 : ¬ (a = 116 ∨ a = 102) := by rintro (rfl | rfl) <;> revert h <;> decide
  unfold cls
  rw [if_neg h1, if_neg h2, if_pos h]
/-- The parts of a value that is right and no list. -/
theorem leaf_parts {d : Nat} {x : JV} (h7 : x.k ≠ 7) (h8 : x.k ≠ 8) (h : chkAt (d + 1) x = true) : x.ns = [] ∧ x.ps = [] ∧ leafB x.k (vbl x.s) = true := by
  have h' : (selfB x && x.ps.all (chkAt d)) = true := h
  rw [self_leaf h7 h8, Bool.and_eq_true, Bool.and_eq_true, Bool.and_eq_true] at h'
  exact ⟨List.isEmpty_iff.1 h'.1.1.1, List.isEmpty_iff.1 h'.1.1.2, h'.1.2⟩
theorem leaf_kind {k : Int} {l : List UInt8} (h : leafB k l = true) : (k = 1 ∧ l = []) ∨ (k = 2 ∧ (l = [116, 114, 117, 101] ∨ l = [102, 97, 108, 115, 101])) ∨ (k = 3 ∧ numOk l = true ∧ numWhole l = true) ∨ (k = 4 ∧ numOk l = true ∧ numWhole l = false) ∨ (k = 5 ∧ Lib.validD l = true) := by
  unfold leafB at h
  by_cases h1 : k = 1
  · rw [if_pos h1] at h; exact .inl ⟨h1, List.isEmpty_iff.1 h⟩
  rw [if_neg h1] at h
  by_cases h2 : k = 2
  · rw [if_pos h2] at h
    unfold boolB at h
    simp only [Bool.or_eq_true, beq_iff_eq] at h
    exact .inr (.inl ⟨h2, h⟩)
  rw [if_neg h2] at h
  by_cases h3 : k = 3
  · rw [if_pos h3, Bool.and_eq_true] at h; exact .inr (.inr (.inl ⟨h3, h⟩))
  rw [if_neg h3] at h
  by_cases h4 : k = 4
  · rw [if_pos h4, Bool.and_eq_true] at h; exact .inr (.inr (.inr (.inl ⟨h4, h.1, by simpa using h.2⟩)))
  rw [if_neg h4] at h
  by_cases h5 : k = 5
  · rw [if_pos h5] at h; exact .inr (.inr (.inr (.inr ⟨h5, h⟩)))
  rw [if_neg h5] at h
  cases h
theorem head_cls {d : Nat} {x : JV} (h : chkAt (d + 1) x = true) : ∃ a t, txt (d + 1) x = a :: t ∧ cls a = (if x.k = 4 then 3 else x.k) ∧ (x.k = 1 ∨ x.k = 2 ∨ x.k = 3 ∨ x.k = 4 ∨ x.k = 5 ∨ x.k = 7 ∨ x.k = 8) := by
  by_cases h7 : x.k = 7
  · exact ⟨91, _, by rw [txt_list h7]; rfl, by rw [h7]; decide, by omega⟩
  by_cases h8 : x.k = 8
  · exact ⟨123, _, by rw [txt_obj h8]; rfl, by rw [h8]; decide, by omega⟩
  obtain ⟨_, _, hl⟩ := leaf_parts h7 h8 h
  rcases leaf_kind hl with ⟨k, e⟩ | ⟨k, e⟩ | ⟨k, e, _⟩ | ⟨k, e, _⟩ | ⟨k, e⟩
  · exact ⟨110, _, by rw [txt_null k]; rfl, by rw [k]; decide, by omega⟩
  · rw [txt_leaf (by omega) (by omega) h7 h8, k]
    rcases e with e | e
    · exact ⟨_, _, e, by decide, by omega⟩
    · exact ⟨_, _, e, by decide, by omega⟩
  · rw [txt_leaf (by omega) (by omega) h7 h8, k]
    obtain ⟨a, t, e1, e2⟩ := num_head e
    exact ⟨a, t, e1, by rw [cls_num e2]; rfl, by omega⟩
  · rw [txt_leaf (by omega) (by omega) h7 h8, k]
    obtain ⟨a, t, e1, e2⟩ := num_head e
    exact ⟨a, t, e1, by rw [cls_num e2]; rfl, by omega⟩
  · rw [txt_str k, k]
    unfold quoteB
    rw [if_pos e]
    exact ⟨34, _, rfl, by decide, by omega⟩
theorem head_ok {d : Nat} {x : JV} (h : chkAt d x = true) : ∃ a t, txt d x = a :: t ∧ a ≠ 44 ∧ a ≠ 93 ∧ a ≠ 125 := by
  match d, h with
  | d + 1, h =>
    obtain ⟨a, t, e, hc, hk⟩ := head_cls h
    refine ⟨a, t, e, ?_, ?_, ?_⟩ <;> rintro rfl <;> (rw [show cls _ = 0 from by decide] at hc; split at hc <;> omega)

end Go.Proofs.YtbcenaljaoejkaaDoor

/-
  Unlike values have unlike texts.
-/
namespace Go.Proofs.YtbcenaljaoejkaaDoor
open Go.RowKit

theorem nmGo_valid : ∀ (l seen : List (List UInt8)), nmGo seen l = true → ∀ n ∈ l, Lib.validD n = true
  | [], _, _, _, h => by cases h
  | a :: t, seen, h, n, hn => by
    unfold nmGo at h
    simp only [Bool.and_eq_true] at h
    rcases List.mem_cons.1 hn with e | e
    · subst e; exact h.1.2
    · exact nmGo_valid t _ h.2 n e
theorem nm_valids {ns : List ByteArray} (h : nmOk ns = true) : ∀ n ∈ ns, Lib.validD (vbl n) = true := fun n hn => nmGo_valid _ _ h _ (List.mem_map.2 ⟨n, hn, rfl⟩)

theorem stop_pts (f : JV → List UInt8) (ob : Bool) (ns : List ByteArray) (ps : List JV) (c : UInt8) (hc : c = 93 ∨ c = 125) (r : List UInt8) : stopB (pts f ob false ns ps ++ c :: r) = true := by
  cases ps with
  | nil => rcases hc with rfl | rfl <;> rfl
  | cons p q => unfold pts; rfl

theorem pts_list (f : JV → List UInt8) (P : JV → Prop) (hf : ∀ x, P x → ∃ a t, f x = a :: t ∧ a ≠ 44 ∧ a ≠ 93 ∧ a ≠ 125) (ih : ∀ x y r r', P x → P y → stopB r = true → stopB r' = true → f x ++ r = f y ++ r' → x = y ∧ r = r') :
    ∀ (ps qs : List JV) (fst : Bool) (r r' : List UInt8), (∀ p ∈ ps, P p) → (∀ p ∈ qs, P p) → pts f false fst [] ps ++ 93 :: r = pts f false fst [] qs ++ 93 :: r' → ps = qs ∧ r = r'
  | [], [], _, r, r', _, _, e => ⟨rfl, by simpa [pts] using e⟩
  | [], q :: qs, fst, r, r', _, hq, e => by
    exfalso
    obtain ⟨a, t, ea, h1, h2, _⟩ := hf q (hq q (by simp))
    unfold pts at e
    rw [ea] at e
    cases fst <;> simp at e
    exact h2 e.1.symm
  | p :: ps, [], fst, r, r', hp, _, e => by
    exfalso
    obtain ⟨a, t, ea, h1, h2, _⟩ := hf p (hp p (by simp))
    unfold pts at e
    rw [ea] at e
    cases fst <;> simp at e
    exact h2 e.1
  | p :: ps, q :: qs, fst, r, r', hp, hq, e => by
    have e' : f p ++ (pts f false false [] ps ++ 93 :: r) = f q ++ (pts f false false [] qs ++ 93 :: r') := by
      unfold pts at e
      cases fst <;> simpa using e
    obtain ⟨e1, e2⟩ := ih p q _ _ (hp p (by simp)) (hq q (by simp)) (stop_pts f false [] ps 93 (.inl rfl) r) (stop_pts f false [] qs 93 (.inl rfl) r') e'
    obtain ⟨e3, e4⟩ := pts_list f P hf ih ps qs false r r' (fun x hx => hp x (by simp [hx])) (fun x hx => hq x (by simp [hx])) e2
    exact ⟨by rw [e1, e3], e4⟩

theorem quote_head {l : List UInt8} (h : Lib.validD l = true) : ∃ t, quoteB l = 34 :: t := by
  unfold quoteB
  rw [if_pos h]
  exact ⟨_, rfl⟩

theorem pts_obj (f : JV → List UInt8) (P : JV → Prop) (ih : ∀ x y r r', P x → P y → stopB r = true → stopB r' = true → f x ++ r = f y ++ r' → x = y ∧ r = r') :
    ∀ (ps qs : List JV) (ns ms : List ByteArray) (fst : Bool) (r r' : List UInt8), ns.length = ps.length → ms.length = qs.length → (∀ n ∈ ns, Lib.validD (vbl n) = true) → (∀ n ∈ ms, Lib.validD (vbl n) = true) → (∀ p ∈ ps, P p) → (∀ p ∈ qs, P p) →
      pts f true fst ns ps ++ 125 :: r = pts f true fst ms qs ++ 125 :: r' → ns = ms ∧ ps = qs ∧ r = r'
  | [], [], [], [], _, r, r', _, _, _, _, _, _, e => ⟨rfl, rfl, by simpa [pts] using e⟩
  | [], q :: qs, [], m :: ms, fst, r, r', _, _, _, hm, _, _, e => by
    exfalso
    obtain ⟨t, et⟩ := quote_head (hm m (by simp))
    unfold pts at e
    simp only [List.headD_cons] at e
    rw [et] at e
    cases fst <;> simp at e
  | p :: ps, [], n :: ns, [], fst, r, r', _, _, hn, _, _, _, e => by
    exfalso
    obtain ⟨t, et⟩ := quote_head (hn n (by simp))
    unfold pts at e
    simp only [List.headD_cons] at e
    rw [et] at e
    cases fst <;> simp at e
  | p :: ps, q :: qs, n :: ns, m :: ms, fst, r, r', hl, hl', hn, hm, hp, hq, e => by
    have e' : quoteB (vbl n) ++ (58 :: (f p ++ (pts f true false ns ps ++ 125 :: r))) = quoteB (vbl m) ++ (58 :: (f q ++ (pts f true false ms qs ++ 125 :: r'))) := by
      unfold pts at e
      cases fst <;> simpa using e
    obtain ⟨e1, e2⟩ := quoteB_cut (hn n (by simp)) (hm m (by simp)) e'
    injection e2 with _ e2
    obtain ⟨e3, e4⟩ := ih p q _ _ (hp p (by simp)) (hq q (by simp)) (stop_pts f true ns ps 125 (.inr rfl) r) (stop_pts f true ms qs 125 (.inr rfl) r') e2
    obtain ⟨e5, e6, e7⟩ := pts_obj f P ih ps qs ns ms false r r' (by simpa using hl) (by simpa using hl') (fun x hx => hn x (by simp [hx])) (fun x hx => hm x (by simp [hx])) (fun x hx => hp x (by simp [hx])) (fun x hx => hq x (by simp [hx])) e4
    exact ⟨by rw [vbl_inj e1, e5], by rw [e3, e6], e7⟩
  | [], _, _ :: _, _, _, _, _, hl, _, _, _, _, _, _ => by cases hl
  | _ :: _, _, [], _, _, _, _, hl, _, _, _, _, _, _ => by cases hl
  | _, [], _, _ :: _, _, _, _, _, hl, _, _, _, _, _ => by cases hl
  | _, _ :: _, _, [], _, _, _, _, hl, _, _, _, _, _ => by cases hl

theorem jv_eq {x y : JV} (h1 : x.k = y.k) (h2 : x.s = y.s) (h3 : x.ns = y.ns) (h4 : x.ps = y.ps) : x = y := by
  cases x
  cases y
  simp only [JV.k, JV.s, JV.ns, JV.ps] at h1 h2 h3 h4
  rw [h1, h2, h3, h4]

theorem txt_cut : ∀ (d : Nat) (x y : JV) (r r' : List UInt8), chkAt d x = true → chkAt d y = true → stopB r = true → stopB r' = true → txt d x ++ r = txt d y ++ r' → x = y ∧ r = r'
  | 0, _, _, _, _, h, _, _, _, _ => by cases h
  | d + 1, x, y, r, r', hx, hy, hr, hr', e => by
    obtain ⟨a, t, ea, ca, ka⟩ := head_cls hx
    obtain ⟨b, u, eb, cb, kb⟩ := head_cls hy
    have hab : a = b := by
      rw [ea, eb] at e
      simp only [List.cons_append, List.cons.injEq] at e
      exact e.1
    subst hab
    have hk : (if x.k = 4 then 3 else x.k) = (if y.k = 4 then 3 else y.k) := ca.symm.trans cb
    clear ea eb ca cb
    have hxs : (selfB x && x.ps.all (chkAt d)) = true := hx
    have hys : (selfB y && y.ps.all (chkAt d)) = true := hy
    rw [Bool.and_eq_true] at hxs hys
    have hxp : ∀ p ∈ x.ps, chkAt d p = true := List.all_eq_true.1 hxs.2
    have hyp : ∀ p ∈ y.ps, chkAt d p = true := List.all_eq_true.1 hys.2
    by_cases h7 : x.k = 7
    · have k7 : y.k = 7 := by rw [h7, if_neg (by decide)] at hk; split at hk <;> omega
      rw [txt_list h7, txt_list k7] at e
      have s1 := hxs.1
      have s2 := hys.1
      rw [self_list h7, Bool.and_eq_true] at s1
      rw [self_list k7, Bool.and_eq_true] at s2
      have n1 := List.isEmpty_iff.1 s1.2
      have n2 := List.isEmpty_iff.1 s2.2
      rw [n1, n2] at e
      obtain ⟨e1, e2⟩ := pts_list (txt d) (fun x => chkAt d x = true) (fun x h => head_ok h) (txt_cut d) x.ps y.ps true r r' hxp hyp (by simpa using e)
      exact ⟨jv_eq (by rw [h7, k7]) (vbl_inj (by rw [List.isEmpty_iff.1 s1.1, List.isEmpty_iff.1 s2.1])) (by rw [n1, n2]) e1, e2⟩
    by_cases h8 : x.k = 8
    · have k8 : y.k = 8 := by rw [h8, if_neg (by decide)] at hk; split at hk <;> omega
      rw [txt_obj h8, txt_obj k8] at e
      have s1 := hxs.1
      have s2 := hys.1
      rw [self_obj h8, Bool.and_eq_true, Bool.and_eq_true] at s1
      rw [self_obj k8, Bool.and_eq_true, Bool.and_eq_true] at s2
      obtain ⟨e0, e1, e2⟩ := pts_obj (txt d) (fun x => chkAt d x = true) (txt_cut d) x.ps y.ps x.ns y.ns true r r' (by simpa using s1.1.2) (by simpa using s2.1.2) (nm_valids s1.2) (nm_valids s2.2) hxp hyp (by simpa using e)
      exact ⟨jv_eq (by rw [h8, k8]) (vbl_inj (by rw [List.isEmpty_iff.1 s1.1.1, List.isEmpty_iff.1 s2.1.1])) e0 e1, e2⟩
    have h7' : y.k ≠ 7 := fun h => by
      have hh : (if y.k = 4 then (3 : Int) else y.k) = 7 := by rw [h]; rfl
      rw [hh] at hk
      split at hk <;> omega
    have h8' : y.k ≠ 8 := fun h => by
      have hh : (if y.k = 4 then (3 : Int) else y.k) = 8 := by rw [h]; rfl
      rw [hh] at hk
      split at hk <;> omega
    obtain ⟨x1, x2, x3⟩ := leaf_parts h7 h8 hx
    obtain ⟨y1, y2, y3⟩ := leaf_parts h7' h8' hy
    have fin : x.k = y.k → x.s = y.s → x = y := fun h1 h2 => jv_eq h1 h2 (by rw [x1, y1]) (by rw [x2, y2])
    have numb : numOk (vbl x.s) = true → numOk (vbl y.s) = true → x.k ≠ 1 → x.k ≠ 5 → y.k ≠ 1 → y.k ≠ 5 → vbl x.s = vbl y.s ∧ r = r' := fun n1 n2 a1 a5 b1 b5 => by
      rw [txt_leaf a1 a5 h7 h8, txt_leaf b1 b5 h7' h8'] at e
      exact run_cut _ _ r r' (num_all n1) (num_all n2) hr hr' e
    rcases leaf_kind x3 with ⟨k, o⟩ | ⟨k, o⟩ | ⟨k, o, ow⟩ | ⟨k, o, ow⟩ | ⟨k, o⟩ <;> rcases leaf_kind y3 with ⟨k', o'⟩ | ⟨k', o'⟩ | ⟨k', o', ow'⟩ | ⟨k', o', ow'⟩ | ⟨k', o'⟩ <;> rw [k, k'] at hk <;> first
      | (exfalso; revert hk; decide)
      | skip
    · rw [txt_null k, txt_null k'] at e
      exact ⟨fin (by rw [k, k']) (vbl_inj (by rw [o, o'])), by simpa [nullL] using e⟩
    · rw [txt_leaf (by omega) (by omega) h7 h8, txt_leaf (by omega) (by omega) h7' h8'] at e
      rcases o with o | o <;> rcases o' with o' | o' <;> rw [o, o'] at e <;> simp at e
      · exact ⟨fin (by rw [k, k']) (vbl_inj (by rw [o, o'])), e⟩
      · exact ⟨fin (by rw [k, k']) (vbl_inj (by rw [o, o'])), e⟩
    · obtain ⟨e1, e2⟩ := numb o o' (by omega) (by omega) (by omega) (by omega)
      exact ⟨fin (by rw [k, k']) (vbl_inj e1), e2⟩
    · obtain ⟨e1, _⟩ := numb o o' (by omega) (by omega) (by omega) (by omega)
      rw [e1, ow'] at ow
      cases ow
    · obtain ⟨e1, _⟩ := numb o o' (by omega) (by omega) (by omega) (by omega)
      rw [e1, ow'] at ow
      cases ow
    · obtain ⟨e1, e2⟩ := numb o o' (by omega) (by omega) (by omega) (by omega)
      exact ⟨fin (by rw [k, k']) (vbl_inj e1), e2⟩
    · rw [txt_str k, txt_str k'] at e
      obtain ⟨e1, e2⟩ := quoteB_cut o o' e
      exact ⟨fin (by rw [k, k']) (vbl_inj e1), e2⟩

theorem txt_inj {x y : JV} (hx : chkAt 12 x = true) (hy : chkAt 12 y = true) (e : txt 12 x = txt 12 y) : x = y :=
  (txt_cut 12 x y [] [] hx hy rfl rfl (by rw [e])).1

end Go.Proofs.YtbcenaljaoejkaaDoor

/-
  JreadBack: every value is read back; doubled, or with more behind it, it is none.
-/
namespace Go.Proofs.YtbcenaljaoejkaaDoor
open Go.RowKit

theorem numC_ns {b : UInt8} (h : numC b = true) : isNS b := by
  unfold numC at h
  simp only [Bool.or_eq_true, beq_iff_eq] at h
  rcases h with ((((h | rfl) | rfl) | rfl) | rfl) | rfl
  · exact dig_ns h
  all_goals (unfold isNS; decide)
theorem num_ns {l : List UInt8} (h : numOk l = true) : ∀ c ∈ l, isNS c := fun c hc => numC_ns (List.all_eq_true.1 (num_all h) c hc)

theorem bl_front (n : Nat) (x : JV) (bl : List UInt8) (h : chkAt n x = true) : ∃ b z, btx bl n x = b :: z ∧ blankU b = false ∧ b ≠ 93 ∧ b ≠ 125 := by
  match n, h with
  | n + 1, h =>
    by_cases h7 : x.k = 7
    · exact ⟨91, _, by unfold btx; rw [if_neg (by omega), if_neg (by omega), if_pos h7], by decide, by decide, by decide⟩
    · by_cases h8 : x.k = 8
      · exact ⟨123, _, by unfold btx; rw [if_neg (by omega), if_neg (by omega), if_neg (by omega), if_pos h8], by decide, by decide, by decide⟩
      · obtain ⟨_, _, hlf⟩ := leaf_parts h7 h8 h
        rcases leaf_kind hlf with ⟨hk, _⟩ | ⟨hk, hb⟩ | ⟨hk, hn⟩ | ⟨hk, hn⟩ | ⟨hk, hv⟩
        · exact ⟨110, [117, 108, 108], by unfold btx; rw [if_pos hk]; rfl, by decide, by decide, by decide⟩
        · have e : btx bl (n + 1) x = vbl x.s := by unfold btx; rw [if_neg (by omega), if_neg (by omega), if_neg (by omega), if_neg (by omega)]
          rcases hb with hb | hb
          · exact ⟨116, [114, 117, 101], by rw [e, hb], by decide, by decide, by decide⟩
          · exact ⟨102, [97, 108, 115, 101], by rw [e, hb], by decide, by decide, by decide⟩
        · have e : btx bl (n + 1) x = vbl x.s := by unfold btx; rw [if_neg (by omega), if_neg (by omega), if_neg (by omega), if_neg (by omega)]
          obtain ⟨a, t, ht, _⟩ := num_head hn.1
          have hns := ns_ne (num_ns hn.1 a (by rw [ht]; simp))
          refine ⟨a, t, by rw [e, ht], hns.1, hns.2.2.2.2.2.2.2, ?_⟩
          have := num_ns hn.1 a (by rw [ht]; simp)
          rintro rfl
          unfold isNS at this
          exact absurd this (by decide)
        · have e : btx bl (n + 1) x = vbl x.s := by unfold btx; rw [if_neg (by omega), if_neg (by omega), if_neg (by omega), if_neg (by omega)]
          obtain ⟨a, t, ht, _⟩ := num_head hn.1
          have hns := ns_ne (num_ns hn.1 a (by rw [ht]; simp))
          refine ⟨a, t, by rw [e, ht], hns.1, hns.2.2.2.2.2.2.2, ?_⟩
          have := num_ns hn.1 a (by rw [ht]; simp)
          rintro rfl
          unfold isNS at this
          exact absurd this (by decide)
        · obtain ⟨t, ht⟩ := quote_head hv
          exact ⟨34, t, by unfold btx; rw [if_neg (by omega), if_pos hk, ht], by decide, by decide, by decide⟩

theorem JV.eta (x : JV) : x = .mk x.k x.s x.ns x.ps := by cases x; rfl

end Go.Proofs.YtbcenaljaoejkaaDoor

/-
  JreadBack: every value is read back.
-/
namespace Go.Proofs.YtbcenaljaoejkaaDoor
open Go.RowKit

theorem bpts_mem (bl : List UInt8) (f : JV → List UInt8) (ob : Bool) : ∀ (ps : List JV) (fst : Bool) (ns : List ByteArray), ∀ q ∈ ps, (f q).length ≤ (bpts bl f ob fst ns ps).length
  | [], _, _, q, h => by cases h
  | p :: ps, fst, ns, q, h => by
    unfold bpts
    simp only [List.length_append]
    rcases List.mem_cons.1 h with rfl | h
    · omega
    · have := bpts_mem bl f ob ps false ns.tail q h
      omega
theorem bpts_len (bl : List UInt8) (f : JV → List UInt8) (ob : Bool) : ∀ (ps : List JV) (fst : Bool) (ns : List ByteArray), (∀ q ∈ ps, 1 ≤ (f q).length) → ps.length ≤ (bpts bl f ob fst ns ps).length
  | [], _, _, _ => Nat.zero_le _
  | p :: ps, fst, ns, h => by
    unfold bpts
    simp only [List.length_append, List.length_cons]
    have h1 := h p (by simp)
    have h2 := bpts_len bl f ob ps false ns.tail fun q hq => h q (by simp [hq])
    omega

theorem word_read {w l : List UInt8} (r : List UInt8) (h : l = w) : Lib.hasPrefix (l ++ r) w = true ∧ (l ++ r).drop w.length = r := by
  subst h
  exact ⟨List.isPrefixOf_iff_prefix.2 (List.prefix_append _ _), List.drop_left⟩

theorem deep_no {dep : Nat} (h : dep ≤ 12) : (false || deepB dep) = false := by unfold deepB; simp; omega

theorem back_leaf {bl : List UInt8} {n f dep : Nat} {x : JV} (hc : chkAt (n + 1) x = true) (hdd : dep ≤ 12) (h7 : x.k ≠ 7) (h8 : x.k ≠ 8) : Back bl (n + 1) (pv (f + 1) dep) x := by
  intro t r hr
  obtain ⟨hns, hps, hlf⟩ := leaf_parts h7 h8 hc
  have hx : x = .mk x.k x.s [] [] := by rw [← hns, ← hps]; exact x.eta
  rcases leaf_kind hlf with ⟨hk, hs⟩ | ⟨hk, hb⟩ | ⟨hk, hn⟩ | ⟨hk, hn⟩ | ⟨hk, hv⟩
  · have hs' : x.s = e0 := vbl_inj (b := e0) hs
    have hx1 : x = .mk 1 e0 [] [] := by have h := hx; rw [hk, hs'] at h; exact h
    have e : btx bl (n + 1) x = wNull := by unfold btx; rw [if_pos hk]; rfl
    obtain ⟨w1, w2⟩ := word_read (w := wNull) r rfl
    refine ⟨r, ?_, rfl⟩
    rw [e, pv, show sk (wNull ++ r) = wNull ++ r from rfl, show hd (wNull ++ r) = 110 from rfl, if_neg (by decide), if_neg (by decide), if_neg (by decide), if_pos rfl, wordP, w1, if_pos rfl, w2, deep_no hdd, hx1]
  · have e : btx bl (n + 1) x = vbl x.s := by unfold btx; rw [if_neg (by omega), if_neg (by omega), if_neg (by omega), if_neg (by omega)]
    rcases hb with hb | hb
    · have hs' : x.s = ofL wTrue := vbl_inj (b := ofL wTrue) hb
      have hx1 : x = .mk 2 (ofL wTrue) [] [] := by have h := hx; rw [hk, hs'] at h; exact h
      obtain ⟨w1, w2⟩ := word_read (w := wTrue) r rfl
      refine ⟨r, ?_, rfl⟩
      rw [e, show vbl x.s = wTrue from hb, pv, show sk (wTrue ++ r) = wTrue ++ r from rfl, show hd (wTrue ++ r) = 116 from rfl, if_neg (by decide), if_neg (by decide), if_neg (by decide), if_neg (by decide), if_pos rfl, wordP, w1, if_pos rfl, w2, deep_no hdd, hx1]
    · have hs' : x.s = ofL wFalse := vbl_inj (b := ofL wFalse) hb
      have hx1 : x = .mk 2 (ofL wFalse) [] [] := by have h := hx; rw [hk, hs'] at h; exact h
      obtain ⟨w1, w2⟩ := word_read (w := wFalse) r rfl
      refine ⟨r, ?_, rfl⟩
      rw [e, show vbl x.s = wFalse from hb, pv, show sk (wFalse ++ r) = wFalse ++ r from rfl, show hd (wFalse ++ r) = 102 from rfl, if_neg (by decide), if_neg (by decide), if_neg (by decide), if_neg (by decide), if_neg (by decide), if_pos rfl, wordP, w1, if_pos rfl, w2, deep_no hdd, hx1]
  · have e : btx bl (n + 1) x = vbl x.s := by unfold btx; rw [if_neg (by omega), if_neg (by omega), if_neg (by omega), if_neg (by omega)]
    obtain ⟨a, z, hz, _⟩ := num_head hn.1
    refine ⟨r, ?_, rfl⟩
    have hp := pv_num f dep false t (b := a) (s := z) (r := r) (by rw [← hz]; exact num_ns hn.1) hr
    rw [← hz, hn.1, if_pos rfl, hn.2, if_pos rfl, deep_no hdd, show ofL (vbl x.s) = x.s from of_list _] at hp
    rw [e, hz, List.cons_append, hp]
    exact congrArg (fun v => some (v, r, false, t)) (by have h := hx; rw [hk] at h; exact h.symm)
  · have e : btx bl (n + 1) x = vbl x.s := by unfold btx; rw [if_neg (by omega), if_neg (by omega), if_neg (by omega), if_neg (by omega)]
    obtain ⟨a, z, hz, _⟩ := num_head hn.1
    refine ⟨r, ?_, rfl⟩
    have hp := pv_num f dep false t (b := a) (s := z) (r := r) (by rw [← hz]; exact num_ns hn.1) hr
    rw [← hz, hn.1, if_pos rfl, hn.2, if_neg (by decide), deep_no hdd, show ofL (vbl x.s) = x.s from of_list _] at hp
    rw [e, hz, List.cons_append, hp]
    exact congrArg (fun v => some (v, r, false, t)) (by have h := hx; rw [hk] at h; exact h.symm)
  · have e : btx bl (n + 1) x = quoteB (vbl x.s) := by unfold btx; rw [if_neg (by omega), if_pos hk]
    obtain ⟨q1, q2⟩ := quote_hd (vbl x.s) r hv
    refine ⟨r, ?_, rfl⟩
    rw [e, pv, q1, q2, if_neg (by decide), if_neg (by decide), if_pos rfl, qt_quote _ _ hv]
    show some (JV.mk 5 (ofL (vbl x.s)) [] [], r, false || deepB dep, t) = _
    rw [deep_no hdd, show ofL (vbl x.s) = x.s from of_list _]
    exact congrArg (fun v => some (v, r, false, t)) (by have h := hx; rw [hk] at h; exact h.symm)

end Go.Proofs.YtbcenaljaoejkaaDoor

/-
  JreadBack: every value is read back, with blanks behind the signs or without.
-/
namespace Go.Proofs.YtbcenaljaoejkaaDoor
open Go.RowKit

theorem back_all {bl : List UInt8} (hbl : isBl bl) : ∀ (n : Nat) (x : JV) (f dep : Nat), chkAt n x = true → (btx bl n x).length < f → dep + n ≤ 13 → Back bl n (pv f dep) x
  | 0, _, _, _, h, _, _ => by cases h
  | n + 1, x, f, dep, hc, hf, hdn => by
    obtain ⟨g, rfl⟩ : ∃ g, f = g + 1 := ⟨f - 1, by omega⟩
    by_cases h7 : x.k = 7
    · intro t r hr
      have hc0 := hc
      unfold chkAt at hc
      rw [Bool.and_eq_true, self_list h7, Bool.and_eq_true] at hc
      obtain ⟨⟨hs, hns⟩, hps⟩ := hc
      have hs' : x.s = e0 := vbl_inj (b := e0) (List.isEmpty_iff.1 hs)
      have hns' : x.ns = [] := List.isEmpty_iff.1 hns
      have hx : x = .mk 7 e0 [] x.ps := by have h := x.eta; rw [h7, hs', hns'] at h; exact h
      have hb : btx bl (n + 1) x = 91 :: (bl ++ (bpts bl (btx bl n) false true x.ns x.ps ++ 93 :: bl)) := by unfold btx; rw [if_neg (by omega), if_neg (by omega), if_pos h7]
      rw [hb] at hf ⊢
      have e : (91 :: (bl ++ (bpts bl (btx bl n) false true x.ns x.ps ++ 93 :: bl))) ++ r = 91 :: (bl ++ (bpts bl (btx bl n) false true x.ns x.ps ++ 93 :: (bl ++ r))) := by simp
      have hlen : (bpts bl (btx bl n) false true x.ns x.ps).length + 1 ≤ g := by
        simp only [List.length_cons, List.length_append] at hf
        omega
      have hq : ∀ q ∈ x.ps, Back bl n (pv g (dep + 1)) q := fun q hq => back_all hbl n q g (dep + 1) (List.all_eq_true.1 hps q hq) (by have := bpts_mem bl (btx bl n) false x.ps true x.ns q hq; omega) (by omega)
      have hpl : x.ps.length ≤ (bpts bl (btx bl n) false true x.ns x.ps).length := bpts_len bl (btx bl n) false x.ps true x.ns fun q hq => by
        obtain ⟨b, z, hz, _⟩ := bl_front n q bl (List.all_eq_true.1 hps q hq)
        rw [hz]; simp
      refine ⟨bl ++ r, ?_, sk_bl hbl r⟩
      rw [e, pv, show ∀ z, sk (91 :: z) = 91 :: z from fun _ => rfl, show ∀ z, hd (91 :: z) = 91 from fun _ => rfl, if_pos rfl, show ∀ z : List UInt8, List.drop 1 (91 :: z) = z from fun _ => rfl, deep_no (by omega), listP, sk_bl hbl]
      cases hp : x.ps with
      | nil =>
        show (if hd (sk (93 :: (bl ++ r))) = 93 then _ else _) = _
        rw [show sk (93 :: (bl ++ r)) = 93 :: (bl ++ r) from rfl, if_pos (by rfl)]
        rw [hp] at hx
        exact congrArg (fun v => some (v, bl ++ r, false, t)) hx.symm
      | cons p ps =>
        rw [hp] at hq hps hpl hx hlen
        have e2 : bpts bl (btx bl n) false true x.ns (p :: ps) ++ 93 :: (bl ++ r) = btx bl n p ++ (bpts bl (btx bl n) false false x.ns.tail ps ++ 93 :: (bl ++ r)) := by
          rw [bpts]; simp
        obtain ⟨b, z, hz, hb1, hb2, _⟩ := bl_front n p bl (List.all_eq_true.1 hps p (by simp))
        have hne : hd (sk (bpts bl (btx bl n) false true x.ns (p :: ps) ++ 93 :: (bl ++ r))) ≠ 93 := by
          rw [e2, hz, List.cons_append, sk_cons, hb1]
          exact hb2
        rw [if_neg hne, listGo_same (sk_bl hbl _), e2, back_list hbl ps p [] x.ns.tail g t r hq (by simp only [List.length_cons] at hpl; omega)]
        exact congrArg (fun v => some (v, bl ++ r, false, t)) hx.symm
    · by_cases h8 : x.k = 8
      · intro t r hr
        unfold chkAt at hc
        rw [Bool.and_eq_true, self_obj h8, Bool.and_eq_true, Bool.and_eq_true] at hc
        obtain ⟨⟨⟨hs, hnl⟩, hnm⟩, hps⟩ := hc
        have hs' : x.s = e0 := vbl_inj (b := e0) (List.isEmpty_iff.1 hs)
        have hnl' : x.ns.length = x.ps.length := of_decide_eq_true hnl
        have hx : x = .mk 8 e0 x.ns x.ps := by have h := x.eta; rw [h8, hs'] at h; exact h
        have hb : btx bl (n + 1) x = 123 :: (bl ++ (bpts bl (btx bl n) true true x.ns x.ps ++ 125 :: bl)) := by unfold btx; rw [if_neg (by omega), if_neg (by omega), if_neg (by omega), if_pos h8]
        rw [hb] at hf ⊢
        have e : (123 :: (bl ++ (bpts bl (btx bl n) true true x.ns x.ps ++ 125 :: bl))) ++ r = 123 :: (bl ++ (bpts bl (btx bl n) true true x.ns x.ps ++ 125 :: (bl ++ r))) := by simp
        have hlen : (bpts bl (btx bl n) true true x.ns x.ps).length + 1 ≤ g := by
          simp only [List.length_cons, List.length_append] at hf
          omega
        have hq : ∀ q ∈ x.ps, Back bl n (pv g (dep + 1)) q := fun q hq => back_all hbl n q g (dep + 1) (List.all_eq_true.1 hps q hq) (by have := bpts_mem bl (btx bl n) true x.ps true x.ns q hq; omega) (by omega)
        have hpl : x.ps.length ≤ (bpts bl (btx bl n) true true x.ns x.ps).length := bpts_len bl (btx bl n) true x.ps true x.ns fun q hq => by
          obtain ⟨b, z, hz, _⟩ := bl_front n q bl (List.all_eq_true.1 hps q hq)
          rw [hz]; simp
        refine ⟨bl ++ r, ?_, sk_bl hbl r⟩
        rw [e, pv, show ∀ z, sk (123 :: z) = 123 :: z from fun _ => rfl, show ∀ z, hd (123 :: z) = 123 from fun _ => rfl, if_neg (by decide), if_pos rfl, show ∀ z : List UInt8, List.drop 1 (123 :: z) = z from fun _ => rfl, deep_no (by omega), objP, sk_bl hbl]
        cases hp : x.ps with
        | nil =>
          have hn0 : x.ns = [] := List.eq_nil_of_length_eq_zero (by rw [hnl', hp]; rfl)
          show (if hd (sk (125 :: (bl ++ r))) = 125 then _ else _) = _
          rw [show sk (125 :: (bl ++ r)) = 125 :: (bl ++ r) from rfl, if_pos (by rfl)]
          rw [hp, hn0] at hx
          exact congrArg (fun v => some (v, bl ++ r, false, t)) hx.symm
        | cons p ps =>
          obtain ⟨nm, ns, hn1⟩ : ∃ a b, x.ns = a :: b := by
            cases hn2 : x.ns with
            | nil => rw [hn2, hp] at hnl'; cases hnl'
            | cons a b => exact ⟨a, b, rfl⟩
          rw [hp] at hq hps hpl hx hlen hnl'
          rw [hn1] at hx hlen hnl' hnm hpl
          have hv : Lib.validD (vbl nm) = true := (nmGo_cons (show nmGo [] (vbl nm :: ns.map vbl) = true from hnm)).2.1
          have e2 : bpts bl (btx bl n) true true (nm :: ns) (p :: ps) ++ 125 :: (bl ++ r) = quoteB (vbl nm) ++ 58 :: (bl ++ (btx bl n p ++ (bpts bl (btx bl n) true false ns ps ++ 125 :: (bl ++ r)))) := by
            rw [bpts]; simp
          obtain ⟨q1, q2⟩ := quote_hd (vbl nm) (58 :: (bl ++ (btx bl n p ++ (bpts bl (btx bl n) true false ns ps ++ 125 :: (bl ++ r))))) hv
          rw [hn1, if_neg (by rw [e2, q1, q2]; decide), objGo_same (sk_bl hbl _), e2, back_obj hbl ps p nm ns [] [] g t r hq (by simp only [List.length_cons] at hpl; omega) (by simpa using hnl') hnm]
          exact congrArg (fun v => some (v, bl ++ r, false, t)) hx.symm
      · exact back_leaf hc (by omega) h7 h8

/-- Written and read: the value; with blanks behind the signs and around it, too. -/
theorem read_back {bl pre : List UInt8} (hbl : isBl bl) (hpre : isBl pre) (x : JV) (hc : chkAt 12 x = true) (hlen : (pre ++ (btx bl 12 x ++ bl)).length ≤ 4000) : readP (pre ++ (btx bl 12 x ++ bl)) = (some x, 0) := by
  obtain ⟨r', h1, h2⟩ := back_all hbl 12 x ((pre ++ (btx bl 12 x ++ bl)).length + 1) 1 hc (by simp only [List.length_append]; omega) (by omega) false bl (fun b hb => by
    have : b ∈ bl := List.mem_of_mem_head? hb
    intro hn
    have := (ns_ne hn).1
    rw [hbl b (by assumption)] at this
    cases this)
  unfold readP
  rw [if_neg (by omega), pv_same (sk_bl hpre _), h1]
  have h3 : sk bl = [] := by have := sk_bl hbl []; rw [List.append_nil] at this; exact this
  show (if 0 < (sk r').length then _ else _) = _
  rw [h2, h3]
  rfl

end Go.Proofs.YtbcenaljaoejkaaDoor

/-
  JreadBack: more behind it turns nothing of what was read; so cut it is none, and doubled it is none.
-/
namespace Go.Proofs.YtbcenaljaoejkaaDoor
open Go.RowKit

theorem sk_more {l : List UInt8} (h : sk l ≠ []) (z : List UInt8) : sk (l ++ z) = sk l ++ z := by
  induction l with
  | nil => exact absurd rfl h
  | cons b l ih =>
    rw [List.cons_append, sk_cons, sk_cons]
    rw [sk_cons] at h
    split
    · rename_i hb
      rw [if_pos hb] at h
      exact ih h
    · rfl
theorem hd_more {l : List UInt8} (h : l ≠ []) (z : List UInt8) : hd (l ++ z) = hd l := by
  cases l with
  | nil => exact absurd rfl h
  | cons => rfl
theorem drop_more {l : List UInt8} {k : Nat} (h : k ≤ l.length) (z : List UInt8) : (l ++ z).drop k = l.drop k ++ z := List.drop_append_of_le_length h
theorem ne_of_hd {l : List UInt8} {c : UInt8} (h : hd l = c) (hc : c ≠ 0) : l ≠ [] := by
  rintro rfl
  exact hc h.symm

theorem qLen_more : ∀ (l z : List UInt8), qLen l < l.length → qLen (l ++ z) = qLen l
  | [], _, h => absurd h (by simp)
  | [b], z, h => by
    rw [qLen_cons] at h
    split at h
    · rename_i hb
      rw [List.cons_append, qLen_cons, if_pos hb, qLen_cons, if_pos hb]
    · split at h
      · simp at h
      · simp at h
  | b :: c :: l, z, h => by
    rw [qLen_cons] at h
    rw [List.cons_append, qLen_cons, qLen_cons]
    split
    · rfl
    · rename_i h1
      rw [if_neg h1] at h
      split
      · rename_i h2
        rw [if_pos h2] at h
        have := qLen_more l z (by simp at h ⊢; omega)
        show 2 + qLen (l ++ z) = 2 + qLen l
        rw [this]
      · rename_i h2
        rw [if_neg h2] at h
        have := qLen_more (c :: l) z (by simp at h ⊢; omega)
        rw [this]

theorem qt_more {l t r : List UInt8} (h : qt l = some (t, r)) (z : List UInt8) : qt (l ++ z) = some (t, r ++ z) := by
  unfold qt at h ⊢
  split at h
  · rename_i hl
    have hne : 1 ≤ l.length := by omega
    have e1 : (l ++ z).drop 1 = l.drop 1 ++ z := drop_more hne z
    have e2 : qLen (l.drop 1 ++ z) = qLen (l.drop 1) := qLen_more _ _ (by rw [List.length_drop]; omega)
    rw [e1, e2, if_pos (by rw [List.length_append]; omega), List.take_append_of_le_length (by omega), drop_more (by omega)]
    simp only [Option.map_eq_some_iff] at h ⊢
    obtain ⟨t', h1, h2⟩ := h
    injection h2 with h2 h3
    exact ⟨t', h1, by rw [h2, h3]⟩
  · cases h

/-- What is read of a text is read of it with more behind, where something stood behind already, or it is a list or an object. -/
def More (V : Rdg) : Prop := ∀ d t l x r d' t' z, V d t l = some (x, r, d', t') → (r ≠ [] ∨ hd (sk l) = 91 ∨ hd (sk l) = 123) → V d t (l ++ z) = some (x, r ++ z, d', t')

theorem hd_sk_ne {r : List UInt8} {c : UInt8} (h : hd (sk r) = c) (hc : c ≠ 0) : sk r ≠ [] ∧ r ≠ [] := by
  refine ⟨ne_of_hd h hc, ?_⟩
  rintro rfl
  exact hc h.symm

theorem listGo_more {V : Rdg} (hV : More V) : ∀ (n : Nat) (l : List UInt8) (xs : List JV) (d t : Bool) (x : JV) (r : List UInt8) (d' t' : Bool) (z : List UInt8), listGo V n l xs d t = some (x, r, d', t') → listGo V n (l ++ z) xs d t = some (x, r ++ z, d', t')
  | 0, _, _, _, _, _, _, _, _, _, h => by cases h
  | n + 1, l, xs, d, t, x, r, d', t', z, h => by
    unfold listGo at h ⊢
    cases hv : V d t l with
    | none => rw [hv] at h; cases h
    | some q =>
      obtain ⟨y, r1, d1, t1⟩ := q
      rw [hv] at h
      simp only at h
      by_cases h93 : hd (sk r1) = 93
      · rw [if_pos h93] at h
        obtain ⟨n1, n2⟩ := hd_sk_ne h93 (by decide)
        have hl1 : 1 ≤ (sk r1).length := List.length_pos_iff.2 n1
        rw [hV d t l y r1 d1 t1 z hv (.inl n2)]
        simp only
        rw [sk_more n1, if_pos (by rw [hd_more n1]; exact h93), drop_more hl1]
        injection h with h
        injection h with h1 h
        injection h with h2 h
        rw [h1, h2, h]
      · rw [if_neg h93] at h
        by_cases h44 : hd (sk r1) = 44
        · rw [if_pos h44] at h
          obtain ⟨n1, n2⟩ := hd_sk_ne h44 (by decide)
          have hl1 : 1 ≤ (sk r1).length := List.length_pos_iff.2 n1
          rw [hV d t l y r1 d1 t1 z hv (.inl n2)]
          simp only
          rw [sk_more n1, if_neg (by rw [hd_more n1]; exact h93), if_pos (by rw [hd_more n1]; exact h44), drop_more hl1]
          exact listGo_more hV n _ _ _ _ _ _ _ _ z h
        · rw [if_neg h44] at h; cases h

theorem objGo_more {V : Rdg} (hV : More V) : ∀ (n : Nat) (l : List UInt8) (ns : List ByteArray) (xs : List JV) (d t : Bool) (x : JV) (r : List UInt8) (d' t' : Bool) (z : List UInt8), objGo V n l ns xs d t = some (x, r, d', t') → objGo V n (l ++ z) ns xs d t = some (x, r ++ z, d', t')
  | 0, _, _, _, _, _, _, _, _, _, _, h => by cases h
  | n + 1, l, ns, xs, d, t, x, r, d', t', z, h => by
    unfold objGo at h ⊢
    by_cases h34 : hd (sk l) = 34
    · rw [if_pos h34] at h
      obtain ⟨n0, _⟩ := hd_sk_ne h34 (by decide)
      cases hq : qt (sk l) with
      | none => rw [hq] at h; cases h
      | some q =>
        obtain ⟨nm, r1⟩ := q
        rw [hq] at h
        simp only at h
        rw [sk_more n0, if_pos (by rw [hd_more n0]; exact h34), qt_more hq z]
        simp only
        by_cases h58 : hd (sk r1) = 58
        · rw [if_pos h58] at h
          obtain ⟨n1, _⟩ := hd_sk_ne h58 (by decide)
          have hl1 : 1 ≤ (sk r1).length := List.length_pos_iff.2 n1
          rw [sk_more n1, if_pos (by rw [hd_more n1]; exact h58), drop_more hl1]
          cases hv : V d (t || (ns.map vbl).contains nm) ((sk r1).drop 1) with
          | none => rw [hv] at h; cases h
          | some q =>
            obtain ⟨y, r2, d1, t1⟩ := q
            rw [hv] at h
            simp only at h
            by_cases h125 : hd (sk r2) = 125
            · rw [if_pos h125] at h
              obtain ⟨m1, m2⟩ := hd_sk_ne h125 (by decide)
              have hl2 : 1 ≤ (sk r2).length := List.length_pos_iff.2 m1
              rw [hV _ _ _ y r2 d1 t1 z hv (.inl m2)]
              simp only
              rw [sk_more m1, if_pos (by rw [hd_more m1]; exact h125), drop_more hl2]
              injection h with h
              injection h with h1 h
              injection h with h2 h
              rw [h1, h2, h]
            · rw [if_neg h125] at h
              by_cases h44 : hd (sk r2) = 44
              · rw [if_pos h44] at h
                obtain ⟨m1, m2⟩ := hd_sk_ne h44 (by decide)
                have hl2 : 1 ≤ (sk r2).length := List.length_pos_iff.2 m1
                rw [hV _ _ _ y r2 d1 t1 z hv (.inl m2)]
                simp only
                rw [sk_more m1, if_neg (by rw [hd_more m1]; exact h125), if_pos (by rw [hd_more m1]; exact h44), drop_more hl2]
                exact objGo_more hV n _ _ _ _ _ _ _ _ _ z h
              · rw [if_neg h44] at h; cases h
        · rw [if_neg h58] at h; cases h
    · rw [if_neg h34] at h; cases h

theorem nd_more {l : List UInt8} (h : nd l ≠ []) (z : List UInt8) : nd (l ++ z) = nd l ++ z := by
  unfold nd Lib.trimLeftS at h ⊢
  induction l with
  | nil => exact absurd rfl h
  | cons b l ih =>
    rw [List.cons_append, List.dropWhile_cons, List.dropWhile_cons]
    rw [List.dropWhile_cons] at h
    split
    · rename_i hb
      rw [if_pos hb] at h
      exact ih h
    · rfl
theorem nt_more {l : List UInt8} (h : nd l ≠ []) (z : List UInt8) : nt (l ++ z) = nt l := by
  unfold nt
  rw [nd_more h, List.length_append, List.length_append, show l.length + z.length - ((nd l).length + z.length) = l.length - (nd l).length by omega, List.take_append_of_le_length (by omega)]
theorem pv_blank (f dep : Nat) (d t : Bool) {l : List UInt8} (h : sk l = []) : pv f dep d t l = none := by
  cases f with
  | zero => rfl
  | succ f =>
    rw [pv, h]
    show (if (0 : UInt8) = 91 then _ else if (0 : UInt8) = 123 then _ else if (0 : UInt8) = 34 then _ else if (0 : UInt8) = 110 then _ else if (0 : UInt8) = 116 then _ else if (0 : UInt8) = 102 then _ else numP (d || deepB dep) t []) = none
    rw [if_neg (by decide), if_neg (by decide), if_neg (by decide), if_neg (by decide), if_neg (by decide), if_neg (by decide), numP, show nt [] = [] from rfl, numOk_nil, if_neg (by decide)]

theorem wordP_more {w : List UInt8} {k : Int} {s : ByteArray} {d t : Bool} {l : List UInt8} {x : JV} {r : List UInt8} {d' t' : Bool} (h : wordP w k s d t l = some (x, r, d', t')) (z : List UInt8) : wordP w k s d t (l ++ z) = some (x, r ++ z, d', t') := by
  unfold wordP at h ⊢
  split at h
  · rename_i hp
    have hp' := List.isPrefixOf_iff_prefix.1 hp
    have h2 : Lib.hasPrefix (l ++ z) w = true := List.isPrefixOf_iff_prefix.2 (hp'.trans (List.prefix_append _ _))
    rw [h2, if_pos rfl, drop_more hp'.length_le]
    injection h with h
    injection h with h1 h
    injection h with h3 h
    rw [h1, h3, h]
  · cases h

theorem pv_more : ∀ (f dep : Nat), More (pv f dep)
  | 0, _, _, _, _, _, _, _, _, _, h, _ => by cases h
  | f + 1, dep, d, t, l, x, r, d', t', z, h, hr => by
    have ih := pv_more f (dep + 1)
    have hne : sk l ≠ [] := by
      intro e
      rw [pv_blank _ _ _ _ e] at h
      cases h
    have hl1 : 1 ≤ (sk l).length := List.length_pos_iff.2 hne
    have e1 := sk_more hne z
    have e2 := hd_more hne z
    rw [pv] at h ⊢
    rw [e1, e2]
    by_cases h91 : hd (sk l) = 91
    · rw [if_pos h91] at h ⊢
      rw [drop_more hl1]
      unfold listP at h ⊢
      by_cases h93 : hd (sk ((sk l).drop 1)) = 93
      · rw [if_pos h93] at h
        obtain ⟨n1, _⟩ := hd_sk_ne h93 (by decide)
        rw [sk_more n1, if_pos (by rw [hd_more n1]; exact h93), drop_more (List.length_pos_iff.2 n1)]
        injection h with h
        injection h with g1 h
        injection h with g2 h
        rw [g1, g2, h]
      · rw [if_neg h93] at h
        have n1 : sk ((sk l).drop 1) ≠ [] := by
          intro e
          cases f with
          | zero => cases h
          | succ f =>
            rw [listGo, pv_blank _ _ _ _ e] at h
            cases h
        rw [if_neg (by rw [sk_more n1, hd_more n1]; exact h93)]
        exact listGo_more ih _ _ _ _ _ _ _ _ _ z h
    · rw [if_neg h91] at h ⊢
      by_cases h123 : hd (sk l) = 123
      · rw [if_pos h123] at h ⊢
        rw [drop_more hl1]
        unfold objP at h ⊢
        by_cases h125 : hd (sk ((sk l).drop 1)) = 125
        · rw [if_pos h125] at h
          obtain ⟨n1, _⟩ := hd_sk_ne h125 (by decide)
          rw [sk_more n1, if_pos (by rw [hd_more n1]; exact h125), drop_more (List.length_pos_iff.2 n1)]
          injection h with h
          injection h with g1 h
          injection h with g2 h
          rw [g1, g2, h]
        · rw [if_neg h125] at h
          have n1 : sk ((sk l).drop 1) ≠ [] := by
            intro e
            cases f with
            | zero => cases h
            | succ f =>
              rw [objGo, e, if_neg (by show ¬ (0 : UInt8) = 34; decide)] at h
              cases h
          rw [if_neg (by rw [sk_more n1, hd_more n1]; exact h125)]
          exact objGo_more ih _ _ _ _ _ _ _ _ _ _ z h
      · rw [if_neg h123] at h ⊢
        have hr' : r ≠ [] := by
          rcases hr with h1 | h1 | h1
          · exact h1
          · exact absurd h1 h91
          · exact absurd h1 h123
        by_cases h34 : hd (sk l) = 34
        · rw [if_pos h34] at h ⊢
          simp only [Option.map_eq_some_iff] at h ⊢
          obtain ⟨⟨tx, r1⟩, hq, e⟩ := h
          refine ⟨(tx, r1 ++ z), qt_more hq z, ?_⟩
          injection e with g1 e
          injection e with g2 e
          show (JV.mk 5 (ofL tx) [] [], r1 ++ z, d || deepB dep, t) = _
          rw [show r1 = r from g2, show JV.mk 5 (ofL tx) [] [] = x from g1, show (d || deepB dep, t) = (d', t') from e]
        · rw [if_neg h34] at h ⊢
          by_cases h110 : hd (sk l) = 110
          · rw [if_pos h110] at h ⊢
            exact wordP_more h z
          · rw [if_neg h110] at h ⊢
            by_cases h116 : hd (sk l) = 116
            · rw [if_pos h116] at h ⊢
              exact wordP_more h z
            · rw [if_neg h116] at h ⊢
              by_cases h102 : hd (sk l) = 102
              · rw [if_pos h102] at h ⊢
                exact wordP_more h z
              · rw [if_neg h102] at h ⊢
                unfold numP at h ⊢
                split at h
                · rename_i ho
                  injection h with h
                  injection h with g1 h
                  injection h with g2 h
                  have hnd : nd (sk l) ≠ [] := by rw [g2]; exact hr'
                  rw [nt_more hnd, nd_more hnd, if_pos ho, g1, g2, h]
                · cases h

end Go.Proofs.YtbcenaljaoejkaaDoor

/-
  The document's reader of layer 3: value.
-/
namespace Go.Proofs.YtbcenaljaoejkaaDoor
open Go.RowKit

theorem PS.setDeepI {w : World} {R : Nat} {s : ByteArray} {p : Nat} {b d t : Bool} (h : PS w R s p b d t) {x D : Bool} (e : x = D) : PS (w.setCell ⟨R, 3, none⟩ (.bool x)) R s p b D t := by
  subst e
  exact h.setDeep x
theorem nt_hd {l : List UInt8} {a : UInt8} {z : List UInt8} (h : nt l = a :: z) : hd l = a := by
  unfold nt at h
  cases l with
  | nil => simp at h
  | cons b r =>
    cases hk : (b :: r).length - (nd (b :: r)).length with
    | zero => rw [hk] at h; simp at h
    | succ k => rw [hk, List.take_succ_cons] at h; injection h
theorem numP_no {d t : Bool} {l : List UInt8} (h1 : digU (hd l) = false) (h2 : hd l ≠ 45) : numP d t l = none := by
  unfold numP
  rw [if_neg]
  intro h
  obtain ⟨a, z, e, ha⟩ := num_head h
  rw [← nt_hd e, Bool.or_eq_true, h1, beq_iff_eq] at ha
  exact ha.elim (fun h => by cases h) h2
theorem wordP_at {w : List UInt8} {k : Int} {x : ByteArray} {d t : Bool} {l : List UInt8} (B : Bool) (h : Lib.hasPrefix l w = B) : wordP w k x d t l = if B then some (.mk k x [] [], l.drop w.length, d, t) else none := by
  unfold wordP
  rw [h]
theorem pre_hdd {l : List UInt8} {a : UInt8} {w : List UInt8} (h : Lib.hasPrefix l (a :: w) = true) : hd l = a := by
  have h1 := List.isPrefixOf_iff_prefix.1 h
  cases l with
  | nil => have := h1.length_le; simp at this
  | cons b r => exact (List.cons_prefix_cons.1 h1).1.symm

set_option maxHeartbeats 10000000 in
set_option maxRecDepth 100000 in
theorem pvalue_main (R : Nat) (s : ByteArray) (hs : s.size ≤ 4000) (f dep : Nat) (hdep : dep ≤ 4800) (ih : PValOk R s f (dep + 1)) (p : Nat) (d t : Bool) (w : World) (h : PS w R s p false d t) (hp : p ≤ s.size) (hlen : (s.data.toList.drop p).length < f + 1) (hnil : sk (s.data.toList.drop p) ≠ []) :
    Calls Tryd.prog 16 #[.pointer (some ⟨R, 0, none⟩), .int .i64 dep] w (PVIs R s (f + 1) w (pv (f + 1) dep d t (s.data.toList.drop p))) := by
  have hRlt := h.lt
  have hne : R ≠ w.heap.size := by omega
  have HI := Lib.hid ih
  have HN := pblanks_any R s p false d t (w.alloc (.cells #[.int .i64 0, .string ⟨#[]⟩, .slice none 0 0, .slice none 0 0] 26)) (h.alloc _) hp hs
  have hx0 := Bx.new w
  have hskl := sk_le (s.data.toList.drop p)
  obtain ⟨RES, hRES⟩ : ∃ RES, pv (f + 1) dep d t (s.data.toList.drop p) = RES := ⟨_, rfl⟩
  have HRES := Lib.hid hRES
  rw [hRES]
  have HNIL := Lib.hid hnil
  clear h ih hRES hnil
  go_enter Tryd.func16, Tryd.ntmps16
  go_wp2_with fail
  refine HN.mono ?_
  rintro e w1 ⟨rfl, q, hq, hl, hr, ha⟩
  have hlt : q < s.size := by
    by_cases h1 : q < s.size
    · exact h1
    · exfalso
      rw [drop_end s q h1] at hl
      exact HNIL.out hl.symm
  have hq2 : (s.data.toList.drop q).length ≤ f := by rw [hl]; omega
  have hd' := hd_at s q hlt
  have HL := Lib.hid hl
  have HR := Lib.hid hr
  have hbx : Bx w1 w.heap.size := hx0.keep (ha.block w.heap.size (by simp) (by omega))
  have hz1 : w.heap.size < w1.heap.size := World.block_lt_of_cell? w1 _ hbx.1
  have ha1 : Aw R w.heap.size w w1 := ((Aw.refl R w.heap.size w).alloc (Nat.le_refl _) _).trans (ha.mono (by simp))
  obtain ⟨D, hD⟩ : ∃ D, (d || deepB dep) = D := ⟨_, rfl⟩
  have HPV := Lib.hid (show RES = if hd (s.data.toList.drop q) = 91 then listP (pv f (dep + 1)) f D t ((s.data.toList.drop q).drop 1)
    else if hd (s.data.toList.drop q) = 123 then objP (pv f (dep + 1)) f D t ((s.data.toList.drop q).drop 1)
    else if hd (s.data.toList.drop q) = 34 then (qt (s.data.toList.drop q)).map fun p => (.mk 5 (ofL p.1) [] [], p.2, D, t)
    else if hd (s.data.toList.drop q) = 110 then wordP wNull 1 e0 D t (s.data.toList.drop q)
    else if hd (s.data.toList.drop q) = 116 then wordP wTrue 2 (ofL wTrue) D t (s.data.toList.drop q)
    else if hd (s.data.toList.drop q) = 102 then wordP wFalse 2 (ofL wFalse) D t (s.data.toList.drop q)
    else numP D t (s.data.toList.drop q) by rw [← HRES.out, pv, HL.out, hD])
  have hDf : d = false → decide ((12 : Int) < (dep : Int)) = D := fun e => by
    rw [← hD, e, Bool.false_or]
    unfold deepB
    rw [Bool.eq_iff_iff, decide_eq_true_eq, decide_eq_true_eq]; omega
  have hDt : d = true → true = D := fun e => by rw [← hD, e]; rfl
  have HDF := Lib.hid hDf
  have HDT := Lib.hid hDt
  have HH := Lib.hid hd'
  obtain ⟨c0, c1, c2, c3, c4, fz⟩ := hr
  obtain ⟨x0, x1, x2, x3, xz⟩ := hbx
  clear hl hx0 ha hd' hD hDf hDt
  have hge : decide ((s.size : Int) ≤ q) = false := decide_eq_false (by omega)
  have E := Lib.hid (show ∀ (k : UInt8) (z : Int), (k.toNat : Int) = z → ((s[q].toNat : Int) == z) = decide (hd (s.data.toList.drop q) = k) from fun k z hz => by rw [HH.out, ← hz]; exact u8_is _ _)
  have hdg : ∀ W, Calls Tryd.prog 26 #[.int .u8 (s[q].toNat : Int)] W fun e w' => e = .returned (.bool (digU s[q])) ∧ W = w' := fun W => refDigit_any _ W
  cases d
  all_goals
    go_upto_region 3 with fail
    generalize hW : World.setCell _ _ _ = W
    have hps : PS W R s q false D t := by rw [← hW]; first | exact HR.out.setDeepI (HDT.out rfl) | exact HR.out.setDeepI (HDT.out trivial) | exact HR.out.setDeepI (HDF.out rfl) | exact HR.out.setDeepI (HDF.out trivial)
    have haw : Aw R w.heap.size w W := by rw [← hW]; exact ha1.set _
    have hbw : Bx W w.heap.size := by rw [← hW]; exact Bx.keep ⟨x0, x1, x2, x3, xz⟩ (Below.heap_setCell _ _ _ _ (fun e => hne e.symm))
    have hzw : w.heap.size < W.heap.size := by rw [← hW]; simpa [World.setCell] using hz1
    have HPS := Lib.hid hps
    have HBX := Lib.hid hbw
    clear c0 c1 c2 c3 c4 fz x0 x1 x2 x3 xz hW
    obtain ⟨c0, c1, c2, c3, c4, fz⟩ := hps
    obtain ⟨x0, x1, x2, x3, xz⟩ := hbw
    go_quiet (fail)
    go_upto_region 6 with fail
    go_quiet (fail)
    clear c0 c1 c2 c3 c4 fz HDF HDT HR HL HRES HNIL
    cases h34 : ((s[q].toNat : Int) == 34) with
    | true =>
      have h34' := of_decide_eq_true ((E.out 34 34 rfl).symm.trans h34)
      have HE := Lib.hid (show RES = (qt (s.data.toList.drop q)).map fun p => (.mk 5 (ofL p.1) [] [], p.2, D, t) by rw [HPV.out, if_neg (by rw [h34']; decide), if_neg (by rw [h34']; decide), if_pos h34'])
      have HT : ∀ W', PS W' R s q false D t → Calls Tryd.prog 24 #[.pointer (some ⟨R, 0, none⟩)] W' (PTx R s D t W' (qt (s.data.toList.drop q))) := fun W' hW' => ptext_any R s q D t W' hW' hlt hs
      clear h34' x0 x1 x2 x3 xz
      go_wp2_with ((go_at_call 24); (with_reducible refine (HT _ (HPS.out.drewN _)).mono ?_); rintro e w5 ⟨T, p5, b5, rfl, hT, hp5, hr5, ha5, hm5⟩; have hbx5 : Bx w5 w.heap.size := HBX.out.keep (ha5.block w.heap.size hzw (fun e => hne e.symm)); obtain ⟨y0, y1, y2, y3, yz⟩ := hbx5)
      refine bodyPost_ret (v := leaf 5 T) (by simp [results, Tryd.results16, go_sem, y0, y1, y2, y3, leaf]) rfl ?_
      rw [HE.out]
      exact ⟨.mk 5 T [] [], _, p5, b5, D, t, rfl, rd_leaf _ _ f 5 T (by omega), hp5, hr5.four hne _ _ _ _, (haw.trans (⟨ha5.os, ha5.tape, ha5.output, ha5.size, fun k hk hr => ha5.block k (Nat.lt_of_lt_of_le hk (Nat.le_of_lt hzw)) hr⟩)).four (Nat.le_refl _) _ _ _ _, (fun hb => by
        cases hqt : qt (s.data.toList.drop q) with
        | none => rw [hqt] at hm5; rw [hm5] at hb; cases hb
        | some o =>
          obtain ⟨nm, r⟩ := o
          rw [hqt] at hm5
          obtain ⟨_, e2, e3⟩ := hm5
          show some (JV.mk 5 (ofL nm) [] [], r, D, t) = _
          rw [e2, e3]), (fun hb => by
        cases hqt : qt (s.data.toList.drop q) with
        | none => rfl
        | some o =>
          obtain ⟨nm, r⟩ := o
          rw [hqt] at hm5
          rw [hm5.1] at hb; cases hb)⟩
    | false =>
      cases h91 : ((s[q].toNat : Int) == 91) with
      | true =>
        have h91' := of_decide_eq_true ((E.out 91 91 rfl).symm.trans h91)
        have HE := Lib.hid (show RES = listP (pv f (dep + 1)) f D t (s.data.toList.drop (q + 1)) by rw [HPV.out, if_pos h91', List.drop_drop])
        have HT : ∀ W', PS W' R s (q + 1) false D t → Calls Tryd.prog 25 #[.pointer (some ⟨R, 0, none⟩), .bool false, .int .u8 93, .int .i64 dep] W' (PVIs R s (f + 1) W' (listP (pv f (dep + 1)) f D t (s.data.toList.drop (q + 1)))) := fun W' hW' => plist_any R s f dep (q + 1) D t W' hW' (by omega) (by omega) hs (by omega) (by rw [len_drop]; rw [len_drop] at hq2; omega) HI.out
        obtain ⟨c0, c1, c2, c3, c4, fz⟩ := HPS.out
        clear h91'
        go_upto_region 11 with fail
        generalize hW2 : World.setCell _ _ _ = W2
        have hps2 : PS W2 R s (q + 1) false D t := by rw [← hW2]; exact (HPS.out.drewN _).setAtI (by omega)
        have haw2 : Aw R w.heap.size w W2 := by rw [← hW2]; exact (haw.drewN _).set _
        have hzw2 : W2.heap.size = W.heap.size := by rw [← hW2]; simp [World.setCell]
        have hbw2 : Bx W2 w.heap.size := by rw [← hW2]; exact (HBX.out).keep (Below.heap_setCell _ _ _ _ (fun e => hne e.symm))
        have HBX2 := Lib.hid hbw2
        have HZ2 := Lib.hid hzw2
        clear c0 c1 c2 c3 c4 fz hW2 hbw2 hzw2 x0 x1 x2 x3 xz
        go_wp2_with ((go_at_call 25); (with_reducible refine (HT _ hps2).mono ?_); rintro e w5 ⟨x, v, p5, b5, d5, t5, rfl, hR5, hp5, hr5, ha5, hv1, hv2⟩; obtain ⟨an, cn, ap, cp, rfl⟩ := hR5.shape; have hbx5 : Bx w5 w.heap.size := HBX2.out.keep (ha5.block w.heap.size (by rw [HZ2.out]; exact hzw) (fun e => hne e.symm)); obtain ⟨y0, y1, y2, y3, yz⟩ := hbx5)
        refine bodyPost_ret (v := .agg #[.int .i64 x.k, .string x.s, .slice an x.ns.length cn, .slice ap x.ps.length cp]) (by simp [results, Tryd.results16, go_sem, y0, y1, y2, y3]) rfl ?_
        rw [HE.out]
        exact ⟨x, _, p5, b5, d5, t5, rfl, rd_boxed (by rw [HZ2.out]; exact hzw) hR5 _ _ _ _, hp5, hr5.four hne _ _ _ _, (haw2.trans (ha5.mono (by rw [HZ2.out]; omega))).four (Nat.le_refl _) _ _ _ _, hv1, hv2⟩
      | false =>
        cases h123 : ((s[q].toNat : Int) == 123) with
        | true =>
          have h123' := of_decide_eq_true ((E.out 123 123 rfl).symm.trans h123)
          have HE := Lib.hid (show RES = objP (pv f (dep + 1)) f D t (s.data.toList.drop (q + 1)) by rw [HPV.out, if_neg (by rw [h123']; decide), if_pos h123', List.drop_drop])
          have HT : ∀ W', PS W' R s (q + 1) false D t → Calls Tryd.prog 25 #[.pointer (some ⟨R, 0, none⟩), .bool true, .int .u8 125, .int .i64 dep] W' (PVIs R s (f + 1) W' (objP (pv f (dep + 1)) f D t (s.data.toList.drop (q + 1)))) := fun W' hW' => pobj_any R s f dep (q + 1) D t W' hW' (by omega) (by omega) hs (by omega) (by rw [len_drop]; rw [len_drop] at hq2; omega) HI.out
          obtain ⟨c0, c1, c2, c3, c4, fz⟩ := HPS.out
          clear h123'
          go_upto_region 14 with fail
          generalize hW2 : World.setCell _ _ _ = W2
          have hps2 : PS W2 R s (q + 1) false D t := by rw [← hW2]; exact (HPS.out.drewN _).setAtI (by omega)
          have haw2 : Aw R w.heap.size w W2 := by rw [← hW2]; exact (haw.drewN _).set _
          have hzw2 : W2.heap.size = W.heap.size := by rw [← hW2]; simp [World.setCell]
          have hbw2 : Bx W2 w.heap.size := by rw [← hW2]; exact (HBX.out).keep (Below.heap_setCell _ _ _ _ (fun e => hne e.symm))
          have HBX2 := Lib.hid hbw2
          have HZ2 := Lib.hid hzw2
          clear c0 c1 c2 c3 c4 fz hW2 hbw2 hzw2 x0 x1 x2 x3 xz
          go_wp2_with ((go_at_call 25); (with_reducible refine (HT _ hps2).mono ?_); rintro e w5 ⟨x, v, p5, b5, d5, t5, rfl, hR5, hp5, hr5, ha5, hv1, hv2⟩; obtain ⟨an, cn, ap, cp, rfl⟩ := hR5.shape; have hbx5 : Bx w5 w.heap.size := HBX2.out.keep (ha5.block w.heap.size (by rw [HZ2.out]; exact hzw) (fun e => hne e.symm)); obtain ⟨y0, y1, y2, y3, yz⟩ := hbx5)
          refine bodyPost_ret (v := .agg #[.int .i64 x.k, .string x.s, .slice an x.ns.length cn, .slice ap x.ps.length cp]) (by simp [results, Tryd.results16, go_sem, y0, y1, y2, y3]) rfl ?_
          rw [HE.out]
          exact ⟨x, _, p5, b5, d5, t5, rfl, rd_boxed (by rw [HZ2.out]; exact hzw) hR5 _ _ _ _, hp5, hr5.four hne _ _ _ _, (haw2.trans (ha5.mono (by rw [HZ2.out]; omega))).four (Nat.le_refl _) _ _ _ _, hv1, hv2⟩
        | false =>
          cases h45 : ((s[q].toNat : Int) == 45) with
          | true =>
            have h45' := of_decide_eq_true ((E.out 45 45 rfl).symm.trans h45)
            have hN1 : ¬ hd (s.data.toList.drop q) = 91 := by rw [h45']; decide
            have hN2 : ¬ hd (s.data.toList.drop q) = 123 := by rw [h45']; decide
            have hN3 : ¬ hd (s.data.toList.drop q) = 34 := by rw [h45']; decide
            have hN4 : ¬ hd (s.data.toList.drop q) = 110 := by rw [h45']; decide
            have hN5 : ¬ hd (s.data.toList.drop q) = 116 := by rw [h45']; decide
            have hN6 : ¬ hd (s.data.toList.drop q) = 102 := by rw [h45']; decide
            clear h45'
            have HE := Lib.hid (show RES = numP D t (s.data.toList.drop q) by rw [HPV.out, if_neg hN1, if_neg hN2, if_neg hN3, if_neg hN4, if_neg hN5, if_neg hN6])
            have HT : ∀ W', PS W' R s q false D t → Calls Tryd.prog 27 #[.pointer (some ⟨R, 0, none⟩)] W' (PNm R s D t W' (s.data.toList.drop q)) := fun W' hW' => pnumber_any R s q D t W' hW' (by omega) hs
            have hntl : (nt (s.data.toList.drop q)).length ≤ 4000 := by
              unfold nt
              rw [List.length_take, len_drop]
              omega
            clear hN1 hN2 hN3 hN4 hN5 hN6 x0 x1 x2 x3 xz
            generalize s.data.toList.drop q = L at *
            unfold PNm leaf at HT
            obtain ⟨kk, hkk⟩ : ∃ kk : Int, (if numWhole (nt L) then 3 else 4) = kk := ⟨_, rfl⟩
            obtain ⟨tt, htt⟩ : ∃ tt, ofL (nt L) = tt := ⟨_, rfl⟩
            rw [hkk, htt] at HT
            have hts : tt.size ≤ 4000 := by rw [← htt]; exact hntl
            have HKK := Lib.hid hkk
            have HTT := Lib.hid htt
            clear hkk htt
            go_wp2_with (((go_at_call 27); (with_reducible refine (HT _ (HPS.out.drewN _)).mono ?_); rintro e w5 ⟨rfl, p5, hp5, hl5, hr5, ha5⟩; have hbx5 : Bx w5 w.heap.size := HBX.out.keep (ha5.block w.heap.size hzw (fun e => hne e.symm)); obtain ⟨y0, y1, y2, y3, yz⟩ := hbx5))
            refine bodyPost_ret (v := .agg #[.int .i64 kk, .string tt, .slice none 0 0, .slice none 0 0]) (by simp [results, Tryd.results16, go_sem, y0, y1, y2, y3]) rfl ?_
            rw [HE.out]
            exact ⟨.mk kk tt [] [], _, p5, _, D, t, rfl, rd_leaf _ _ f _ _ (Nat.le_trans hts (by decide)), hp5, hr5.four hne _ _ _ _, (haw.trans (⟨ha5.os, ha5.tape, ha5.output, ha5.size, fun k hk hr => ha5.block k (Nat.lt_of_lt_of_le hk (Nat.le_of_lt hzw)) hr⟩)).four (Nat.le_refl _) _ _ _ _, (fun hb => by
              unfold numP
              rw [if_pos (by simpa using hb), hl5, HKK.out, HTT.out]), (fun hb => by
              unfold numP
              rw [if_neg (by simp at hb; simp [hb])])⟩
          | false =>
            cases hdig : digU s[q] with
            | true =>
              have hN1 : ¬ hd (s.data.toList.drop q) = 91 := fun e => by rw [HH.out] at e; rw [e] at hdig; exact absurd hdig (by decide)
              have hN2 : ¬ hd (s.data.toList.drop q) = 123 := fun e => by rw [HH.out] at e; rw [e] at hdig; exact absurd hdig (by decide)
              have hN3 : ¬ hd (s.data.toList.drop q) = 34 := fun e => by rw [HH.out] at e; rw [e] at hdig; exact absurd hdig (by decide)
              have hN4 : ¬ hd (s.data.toList.drop q) = 110 := fun e => by rw [HH.out] at e; rw [e] at hdig; exact absurd hdig (by decide)
              have hN5 : ¬ hd (s.data.toList.drop q) = 116 := fun e => by rw [HH.out] at e; rw [e] at hdig; exact absurd hdig (by decide)
              have hN6 : ¬ hd (s.data.toList.drop q) = 102 := fun e => by rw [HH.out] at e; rw [e] at hdig; exact absurd hdig (by decide)
              rw [hdig] at hdg
              clear hdig
              have HE := Lib.hid (show RES = numP D t (s.data.toList.drop q) by rw [HPV.out, if_neg hN1, if_neg hN2, if_neg hN3, if_neg hN4, if_neg hN5, if_neg hN6])
              have HT : ∀ W', PS W' R s q false D t → Calls Tryd.prog 27 #[.pointer (some ⟨R, 0, none⟩)] W' (PNm R s D t W' (s.data.toList.drop q)) := fun W' hW' => pnumber_any R s q D t W' hW' (by omega) hs
              have hntl : (nt (s.data.toList.drop q)).length ≤ 4000 := by
                unfold nt
                rw [List.length_take, len_drop]
                omega
              clear hN1 hN2 hN3 hN4 hN5 hN6 x0 x1 x2 x3 xz
              generalize s.data.toList.drop q = L at *
              unfold PNm leaf at HT
              obtain ⟨kk, hkk⟩ : ∃ kk : Int, (if numWhole (nt L) then 3 else 4) = kk := ⟨_, rfl⟩
              obtain ⟨tt, htt⟩ : ∃ tt, ofL (nt L) = tt := ⟨_, rfl⟩
              rw [hkk, htt] at HT
              have hts : tt.size ≤ 4000 := by rw [← htt]; exact hntl
              have HKK := Lib.hid hkk
              have HTT := Lib.hid htt
              clear hkk htt
              go_wp2_with (first | ((go_at_call 26); (with_reducible refine (hdg _).mono ?_); rintro e w4 ⟨rfl, rfl⟩) | ((go_at_call 27); (with_reducible refine (HT _ (HPS.out.drewN _)).mono ?_); rintro e w5 ⟨rfl, p5, hp5, hl5, hr5, ha5⟩; have hbx5 : Bx w5 w.heap.size := HBX.out.keep (ha5.block w.heap.size hzw (fun e => hne e.symm)); obtain ⟨y0, y1, y2, y3, yz⟩ := hbx5))
              refine bodyPost_ret (v := .agg #[.int .i64 kk, .string tt, .slice none 0 0, .slice none 0 0]) (by simp [results, Tryd.results16, go_sem, y0, y1, y2, y3]) rfl ?_
              rw [HE.out]
              exact ⟨.mk kk tt [] [], _, p5, _, D, t, rfl, rd_leaf _ _ f _ _ (Nat.le_trans hts (by decide)), hp5, hr5.four hne _ _ _ _, (haw.trans (⟨ha5.os, ha5.tape, ha5.output, ha5.size, fun k hk hr => ha5.block k (Nat.lt_of_lt_of_le hk (Nat.le_of_lt hzw)) hr⟩)).four (Nat.le_refl _) _ _ _ _, (fun hb => by
                unfold numP
                rw [if_pos (by simpa using hb), hl5, HKK.out, HTT.out]), (fun hb => by
                unfold numP
                rw [if_neg (by simp at hb; simp [hb])])⟩
            | false =>
              rw [hdig] at hdg
              have hx45 : ¬ hd (s.data.toList.drop q) = 45 := of_decide_eq_false ((E.out 45 45 rfl).symm.trans h45)
              have hx91 : ¬ hd (s.data.toList.drop q) = 91 := of_decide_eq_false ((E.out 91 91 rfl).symm.trans h91)
              have hx123 : ¬ hd (s.data.toList.drop q) = 123 := of_decide_eq_false ((E.out 123 123 rfl).symm.trans h123)
              have hx34 : ¬ hd (s.data.toList.drop q) = 34 := of_decide_eq_false ((E.out 34 34 rfl).symm.trans h34)
              have hdg2 : digU (hd (s.data.toList.drop q)) = false := by rw [HH.out]; exact hdig
              have HE := Lib.hid (show RES = if hd (s.data.toList.drop q) = 110 then wordP wNull 1 e0 D t (s.data.toList.drop q) else if hd (s.data.toList.drop q) = 116 then wordP wTrue 2 (ofL wTrue) D t (s.data.toList.drop q) else if hd (s.data.toList.drop q) = 102 then wordP wFalse 2 (ofL wFalse) D t (s.data.toList.drop q) else none by rw [HPV.out, if_neg hx91, if_neg hx123, if_neg hx34, numP_no hdg2 hx45])
              have HWD : ∀ (word : ByteArray) (B : Bool), word.size ≤ 10 → Lib.hasPrefix (s.data.toList.drop q) word.data.toList = B → ∀ W' p', PS W' R s p' false D t → p' ≤ s.size → s.data.toList.drop p' = s.data.toList.drop q → Calls Tryd.prog 28 #[.pointer (some ⟨R, 0, none⟩), .string word] W' fun e w' => e = .returned (.bool B) ∧ PNow R s false D t W' (if B then (s.data.toList.drop q).drop word.size else s.data.toList.drop q) w' := fun word B hw hB W' p' hps hp' hl' => by
                have := pword_any word R s p' false D t W' hps hp' hs hw B (by rw [hl']; exact hB) _ rfl
                refine this.mono ?_
                rintro e w' ⟨rfl, hn⟩
                refine ⟨rfl, ?_⟩
                cases B with
                | true => simp only [if_true] at hn ⊢; rw [← hl', List.drop_drop]; exact hn
                | false => simp only [Bool.false_eq_true, if_false] at hn ⊢; rw [← hl']; exact hn
              obtain ⟨B0, hB0⟩ : ∃ B, Lib.hasPrefix (s.data.toList.drop q) wNull = B := ⟨_, rfl⟩
              have HW0 := HWD ⟨#[110, 117, 108, 108]⟩ B0 (by decide) hB0
              obtain ⟨B1, hB1⟩ : ∃ B, Lib.hasPrefix (s.data.toList.drop q) wTrue = B := ⟨_, rfl⟩
              have HW1 := HWD ⟨#[116, 114, 117, 101]⟩ B1 (by decide) hB1
              obtain ⟨B2, hB2⟩ : ∃ B, Lib.hasPrefix (s.data.toList.drop q) wFalse = B := ⟨_, rfl⟩
              have HW2 := HWD ⟨#[102, 97, 108, 115, 101]⟩ B2 (by decide) hB2
              clear hx45 hx91 hx123 hx34 hdg2 HWD x0 x1 x2 x3 xz
              go_upto_region 17 with ((go_at_call 26); (with_reducible refine (hdg _).mono ?_); rintro e w4 ⟨rfl, rfl⟩)
              cases B0 with
              | true =>
                have h0 := pre_hdd hB0
                simp only [if_true] at HW0
                go_wp2_with ((go_at_call 28); (with_reducible refine (HW0 _ q (HPS.out.drewN _) hq rfl).mono ?_); rintro e w5 ⟨rfl, p5, hp5, hl5, hr5, ha5⟩; have hbx5 : Bx w5 w.heap.size := HBX.out.keep (ha5.block w.heap.size hzw (fun e => hne e.symm)); obtain ⟨y0, y1, y2, y3, yz⟩ := hbx5)
                refine bodyPost_ret (v := leaf 1 ⟨#[]⟩) (by simp [results, Tryd.results16, go_sem, y0, y1, y2, y3, leaf]) rfl ?_
                exact ⟨.mk 1 e0 [] [], _, p5, false, D, t, rfl, rd_leaf _ _ f 1 e0 (by decide), hp5, hr5.four hne _ _ _ _, (haw.trans (⟨ha5.os, ha5.tape, ha5.output, ha5.size, fun k hk hr => ha5.block k (Nat.lt_of_lt_of_le hk (Nat.le_of_lt hzw)) hr⟩)).four (Nat.le_refl _) _ _ _ _, (fun _ => by
                  rw [HE.out, if_pos h0, wordP_at true hB0, if_pos rfl, hl5]
                  rfl), (fun h => by cases h)⟩
              | false =>
                simp only [Bool.false_eq_true, if_false] at HW0
                go_upto_region 19 with ((go_at_call 28); (with_reducible refine (HW0 _ q (HPS.out.drewN _) hq rfl).mono ?_); rintro e w5 ⟨rfl, p5, hp5, hl5, hr5, ha5⟩)
                have haw5 : Aw R w.heap.size w w5 := (haw.trans (⟨ha5.os, ha5.tape, ha5.output, ha5.size, fun k hk hr => ha5.block k (Nat.lt_of_lt_of_le hk (Nat.le_of_lt hzw)) hr⟩))
                have hbx5 : Bx w5 w.heap.size := HBX.out.keep (ha5.block w.heap.size hzw (fun e => hne e.symm))
                have hzw5 : w.heap.size < w5.heap.size := World.block_lt_of_cell? w5 _ hbx5.1
                have HBX5 := Lib.hid hbx5
                clear hbx5 ha5
                cases B1 with
                | true =>
                  have h1 := pre_hdd hB1
                  have h0 : ¬ hd (s.data.toList.drop q) = 110 := by rw [h1]; decide
                  simp only [if_true] at HW1
                  go_wp2_with ((go_at_call 28); (with_reducible refine (HW1 _ p5 hr5 hp5 hl5).mono ?_); rintro e w6 ⟨rfl, p6, hp6, hl6, hr6, ha6⟩; have hbx6 : Bx w6 w.heap.size := HBX5.out.keep (ha6.block w.heap.size hzw5 (fun e => hne e.symm)); obtain ⟨y0, y1, y2, y3, yz⟩ := hbx6)
                  refine bodyPost_ret (v := leaf 2 ⟨#[116, 114, 117, 101]⟩) (by simp [results, Tryd.results16, go_sem, y0, y1, y2, y3, leaf]) rfl ?_
                  exact ⟨.mk 2 (ofL wTrue) [] [], _, p6, false, D, t, rfl, rd_leaf _ _ f 2 (ofL wTrue) (by decide), hp6, hr6.four hne _ _ _ _, (haw5.trans (ha6.mono (Nat.le_of_lt hzw5))).four (Nat.le_refl _) _ _ _ _, (fun _ => by
                    rw [HE.out, if_neg h0, if_pos h1, wordP_at true hB1, if_pos rfl, hl6]
                    rfl), (fun h => by cases h)⟩
                | false =>
                  simp only [Bool.false_eq_true, if_false] at HW1
                  go_upto_region 21 with ((go_at_call 28); (with_reducible refine (HW1 _ p5 hr5 hp5 hl5).mono ?_); rintro e w6 ⟨rfl, p6, hp6, hl6, hr6, ha6⟩)
                  have haw6 : Aw R w.heap.size w w6 := (haw5.trans (ha6.mono (Nat.le_of_lt hzw5)))
                  have hbx6 : Bx w6 w.heap.size := HBX5.out.keep (ha6.block w.heap.size hzw5 (fun e => hne e.symm))
                  have hzw6 : w.heap.size < w6.heap.size := World.block_lt_of_cell? w6 _ hbx6.1
                  have HBX6 := Lib.hid hbx6
                  clear hbx6 ha6
                  cases B2 with
                  | true =>
                    have h2 := pre_hdd hB2
                    have h0 : ¬ hd (s.data.toList.drop q) = 110 := by rw [h2]; decide
                    have h1 : ¬ hd (s.data.toList.drop q) = 116 := by rw [h2]; decide
                    simp only [if_true] at HW2
                    go_wp2_with ((go_at_call 28); (with_reducible refine (HW2 _ p6 hr6 hp6 hl6).mono ?_); rintro e w7 ⟨rfl, p7, hp7, hl7, hr7, ha7⟩; have hbx7 : Bx w7 w.heap.size := HBX6.out.keep (ha7.block w.heap.size hzw6 (fun e => hne e.symm)); obtain ⟨y0, y1, y2, y3, yz⟩ := hbx7)
                    refine bodyPost_ret (v := leaf 2 ⟨#[102, 97, 108, 115, 101]⟩) (by simp [results, Tryd.results16, go_sem, y0, y1, y2, y3, leaf]) rfl ?_
                    exact ⟨.mk 2 (ofL wFalse) [] [], _, p7, false, D, t, rfl, rd_leaf _ _ f 2 (ofL wFalse) (by decide), hp7, hr7.four hne _ _ _ _, (haw6.trans (ha7.mono (Nat.le_of_lt hzw6))).four (Nat.le_refl _) _ _ _ _, (fun _ => by
                      rw [HE.out, if_neg h0, if_neg h1, if_pos h2, wordP_at true hB2, if_pos rfl, hl7]
                      rfl), (fun h => by cases h)⟩
                  | false =>
                    simp only [Bool.false_eq_true, if_false] at HW2
                    have HNO := Lib.hid (show RES = none by
                      rw [HE.out, wordP_at false hB0, wordP_at false hB1, wordP_at false hB2]
                      simp)
                    go_upto_region 23 with ((go_at_call 28); (with_reducible refine (HW2 _ p6 hr6 hp6 hl6).mono ?_); rintro e w7 ⟨rfl, p7, hp7, hl7, hr7, ha7⟩)
                    have hbx7 : Bx w7 w.heap.size := HBX6.out.keep (ha7.block w.heap.size hzw6 (fun e => hne e.symm))
                    obtain ⟨y0, y1, y2, y3, yz⟩ := hbx7
                    have HR7 := Lib.hid hr7
                    obtain ⟨c0, c1, c2, c3, c4, fz⟩ := hr7
                    go_wp2_with fail
                    refine bodyPost_ret (v := leaf 0 ⟨#[]⟩) (by simp [results, Tryd.results16, go_sem, y0, y1, y2, y3, leaf]) rfl ?_
                    exact ⟨.mk 0 ⟨#[]⟩ [] [], _, p7, true, D, t, rfl, rd_leaf _ _ f 0 ⟨#[]⟩ (by decide), hp7, (HR7.out.setBad true).four hne _ _ _ _, (((haw6.trans (ha7.mono (Nat.le_of_lt hzw6)))).set _).four (Nat.le_refl _) _ _ _ _, (fun h => by cases h), (fun _ => HNO.out)⟩

theorem pvalue_step (R : Nat) (s : ByteArray) (hs : s.size ≤ 4000) (f dep : Nat) (hdep : dep ≤ 4800) (ih : PValOk R s f (dep + 1)) : PValOk R s (f + 1) dep := by
  intro p d t w h hp hlen
  by_cases hnil : sk (s.data.toList.drop p) = []
  · refine (pvalue_none R s p dep false d t w h hp hs (by omega) (.inr hnil)).mono ?_
    rintro e w' ⟨rfl, p', d', hp', hps, haw⟩
    exact ⟨_, _, p', true, d', t, rfl, rd_leaf w' _ f 0 ⟨#[]⟩ (by decide), hp', hps, haw, (fun h => by cases h), fun _ => pv_blank _ _ _ _ hnil⟩
  · exact pvalue_main R s hs f dep hdep ih p d t w h hp hlen hnil
theorem pvalue_any (R : Nat) (s : ByteArray) (hs : s.size ≤ 4000) : ∀ (f dep : Nat), dep + f ≤ 4800 → PValOk R s f dep
  | 0, _, _ => fun _ _ _ _ _ _ h => absurd h (Nat.not_lt_zero _)
  | f + 1, dep, h => pvalue_step R s hs f dep (by omega) (pvalue_any R s hs f (dep + 1) (by omega))

end Go.Proofs.YtbcenaljaoejkaaDoor

/-
  The document's Read of layer 3: the same plain function as the program's.
-/
namespace Go.Proofs.YtbcenaljaoejkaaDoor
open Go.RowKit

theorem refRead_big (s : ByteArray) (w : World) (hs : 4000 < s.size) :
    Calls Tryd.prog 9 #[.string s] w (ReadIs (s.size + 1) w (readP s.data.toList)) := by
  have HE := Lib.hid (show readP s.data.toList = (none, 3) by unfold readP; rw [if_pos (show 4000 < s.data.toList.length from hs)])
  have hd : decide ((4000 : Int) < s.size) = true := decide_eq_true (by omega)
  go_enter Tryd.func9, Tryd.ntmps9
  go_wp2_with fail
  refine bodyPost_ret (v := .tuple #[leaf 0 ⟨#[]⟩, .int .i64 3]) (by simp [results, Tryd.results9, go_sem, leaf]) rfl ?_
  rw [HE.out]
  exact ⟨(Below.refl _ w).alloc (Nat.le_refl _) _, _, rfl, rfl⟩

set_option maxHeartbeats 4000000 in
set_option maxRecDepth 100000 in
theorem refRead_fit (s : ByteArray) (w : World) (hs : s.size ≤ 4000) :
    Calls Tryd.prog 9 #[.string s] w (ReadIs (s.size + 1) w (readP s.data.toList)) := by
  have hd : decide ((4000 : Int) < s.size) = false := decide_eq_false (by omega)
  obtain ⟨W1, hW1⟩ : ∃ W1, W1 = (w.alloc (.cells #[.int .i64 0, .string ⟨#[]⟩, .slice none 0 0, .slice none 0 0] 26)).alloc (.cells #[.string s, .int .i64 0, .bool false, .bool false, .bool false] 47) := ⟨_, rfl⟩
  have hs1 : W1.heap.size = w.heap.size + 2 := by rw [hW1]; simp
  have hps : PS W1 (w.heap.size + 1) s 0 false false false := by
    rw [hW1]
    refine ⟨by go_simp, by go_simp, by go_simp, by go_simp, by go_simp, fun j => by go_simp⟩
  have hbx : Bx W1 w.heap.size := by rw [hW1]; exact (Bx.new w).keep (Below.heap_alloc _ _ _ (by simp))
  have hb1 : Below w.heap.size w W1 := by rw [hW1]; exact ((Below.refl _ w).alloc (Nat.le_refl _) _).alloc (by simp) _
  have HV := pvalue_any (w.heap.size + 1) s hs (s.size + 1) 1 (by omega) 0 false false W1 hps (Nat.zero_le _) (by rw [len_drop]; omega)
  rw [List.drop_zero, show ((1 : Nat) : Int) = 1 from rfl] at HV
  have HRP := Lib.hid (show readP s.data.toList = match pv (s.data.toList.length + 1) 1 false false s.data.toList with
    | none => (none, 2)
    | some (x, r, d, t) => if 0 < (sk r).length then (none, 2) else if d then (none, 4) else if t then (none, 5) else (some x, 0) by
      unfold readP
      rw [if_neg (show ¬ 4000 < s.data.toList.length by show ¬ 4000 < s.size; omega)]
      cases pv (s.data.toList.length + 1) 1 false false s.data.toList <;> rfl)
  have HLEN : s.data.toList.length = s.size := rfl
  rw [HLEN] at HRP
  have HW1 := Lib.hid hW1
  have HBX := Lib.hid hbx
  clear hW1 hps hbx HLEN
  go_enter Tryd.func9, Tryd.ntmps9
  go_upto_region 4 with fail
  rw [← HW1.out]
  go_upto_region 5 with ((go_at_call 16); (with_reducible refine HV.mono ?_); rintro e w2 ⟨x, v, p2, b2, d2, t2, rfl, hR2, hp2, hr2, ha2, hv1, hv2⟩; obtain ⟨an, cn, ap, cp, rfl⟩ := hR2.shape)
  obtain ⟨W2, hW2⟩ : ∃ W2, W2 = w2.alloc (.cells #[.int .i64 x.k, .string x.s, .slice an x.ns.length cn, .slice ap x.ps.length cp] 26) := ⟨_, rfl⟩
  rw [← hW2]
  have hs2 : W2.heap.size = w2.heap.size + 1 := by rw [hW2]; simp
  have hz2 := ha2.size
  have haw2 : Aw (w.heap.size + 1) w2.heap.size w2 W2 := by rw [hW2]; exact (Aw.refl _ _ _).alloc (Nat.le_refl _) _
  have hr22 : PS W2 (w.heap.size + 1) s p2 b2 d2 t2 := by rw [hW2]; exact hr2.alloc _
  have k0 : ∀ j, W2.cell? ⟨w2.heap.size, j, none⟩ = (#[Value.int .i64 x.k, .string x.s, .slice an x.ns.length cn, .slice ap x.ps.length cp] : Array Value)[j]? := fun j => by rw [hW2]; go_simp
  have HN := pblanks_any (w.heap.size + 1) s p2 b2 d2 t2 W2 hr22 hp2 hs
  have HV1 := Lib.hid hv1
  have HV2 := Lib.hid hv2
  have HK0 := Lib.hid k0
  clear hW2 hr2 hr22 hv1 hv2 k0 HV
  go_upto_region 6 with ((go_at_call 17); (with_reducible refine HN.mono ?_); rintro e w3 ⟨rfl, q, hq, hl, hr, ha⟩)
  have hbx3 : Bx w3 w.heap.size := HBX.out.keep (((ha.block w.heap.size (by omega) (by omega)).trans (haw2.block w.heap.size (by omega) (by omega))).trans (ha2.block w.heap.size (by omega) (by omega)))
  have hkk : ∀ j, w3.cell? ⟨w2.heap.size, j, none⟩ = (#[Value.int .i64 x.k, .string x.s, .slice an x.ns.length cn, .slice ap x.ps.length cp] : Array Value)[j]? := fun j => (ha.cell (by omega) (by omega)).trans (HK0.out j)
  have v0 : w3.cell? ⟨w2.heap.size, 0, none⟩ = some (.int .i64 x.k) := hkk 0
  have v1 : w3.cell? ⟨w2.heap.size, 1, none⟩ = some (.string x.s) := hkk 1
  have v2 : w3.cell? ⟨w2.heap.size, 2, none⟩ = some (.slice an x.ns.length cn) := hkk 2
  have v3 : w3.cell? ⟨w2.heap.size, 3, none⟩ = some (.slice ap x.ps.length cp) := hkk 3
  have hb3 : Below w.heap.size w w3 := hb1.trans ((((ha2.mono (by omega)).trans (haw2.mono (by omega))).trans (ha.mono (by omega))).below (by omega))
  have HRD := Lib.hid (show RdD w3 (fun b => W1.heap.size ≤ b ∧ b < w2.heap.size) (s.size + 1) x (.agg #[.int .i64 x.k, .string x.s, .slice an x.ns.length cn, .slice ap x.ps.length cp]) from RdD.step (fun _ h => h) (fun b o hd => (ha.cell (by omega) (by have := hd.1; omega)).trans (haw2.cell hd.2 (by have := hd.1; omega))) hR2)
  have hz3 : w2.heap.size < w3.heap.size := by have := ha.size; omega
  have HL := Lib.hid hl
  have hB4 : ∀ a b c d, Below w.heap.size w ((((w3.setCell ⟨w.heap.size, 0, none⟩ a).setCell ⟨w.heap.size, 1, none⟩ b).setCell ⟨w.heap.size, 2, none⟩ c).setCell ⟨w.heap.size, 3, none⟩ d) := fun a b c d =>
    (((hb3.setCell (p := ⟨w.heap.size, 0, none⟩) (Nat.le_refl _) _).setCell (p := ⟨w.heap.size, 1, none⟩) (Nat.le_refl _) _).setCell (p := ⟨w.heap.size, 2, none⟩) (Nat.le_refl _) _).setCell (p := ⟨w.heap.size, 3, none⟩) (Nat.le_refl _) _
  have HB4 := Lib.hid hB4
  obtain ⟨x0, x1, x2, x3, xz⟩ := hbx3
  obtain ⟨c0, c1, c2, c3, c4, fz⟩ := hr
  clear hkk hl hB4 ha2 haw2 ha hR2 HN
  cases b2 with
  | true =>
    have HE := Lib.hid (show readP s.data.toList = (none, 2) by rw [HRP.out, HV2.out rfl])
    go_wp2_with fail
    refine bodyPost_ret (v := .tuple #[leaf 0 ⟨#[]⟩, .int .i64 2]) (by simp [results, Tryd.results9, go_sem, leaf, x0, x1, x2, x3]) rfl ?_
    rw [HE.out]
    exact ⟨HB4.out _ _ _ _, _, rfl, rfl⟩
  | false =>
    have HS := Lib.hid (show readP s.data.toList = if 0 < (sk (s.data.toList.drop p2)).length then (none, 2) else if d2 then (none, 4) else if t2 then (none, 5) else (some x, 0) by rw [HRP.out, HV1.out rfl])
    have hlq : (sk (s.data.toList.drop p2)).length = s.size - q := by rw [← HL.out, len_drop]
    by_cases hqs : q = s.size
    · have hne : ((q : Int) != (s.size : Int)) = false := by simp; omega
      have HS2 := Lib.hid (show readP s.data.toList = if d2 then (none, 4) else if t2 then (none, 5) else (some x, 0) by rw [HS.out, if_neg (by omega)])
      clear hqs hlq
      cases d2 with
      | true =>
        go_wp2_with fail
        refine bodyPost_ret (v := .tuple #[leaf 0 ⟨#[]⟩, .int .i64 4]) (by simp [results, Tryd.results9, go_sem, leaf, x0, x1, x2, x3]) rfl ?_
        rw [HS2.out]
        exact ⟨HB4.out _ _ _ _, _, rfl, rfl⟩
      | false =>
        cases t2 with
        | true =>
          go_wp2_with fail
          refine bodyPost_ret (v := .tuple #[leaf 0 ⟨#[]⟩, .int .i64 5]) (by simp [results, Tryd.results9, go_sem, leaf, x0, x1, x2, x3]) rfl ?_
          rw [HS2.out]
          exact ⟨HB4.out _ _ _ _, _, rfl, rfl⟩
        | false =>
          go_wp2_with fail
          refine bodyPost_ret (v := .tuple #[.agg #[.int .i64 x.k, .string x.s, .slice an x.ns.length cn, .slice ap x.ps.length cp], .int .i64 0]) (by simp [results, Tryd.results9, go_sem, x0, x1, x2, x3]) rfl ?_
          rw [HS2.out]
          exact ⟨HB4.out _ _ _ _, _, rfl, RdD.step (fun b hd => ⟨by have h1 : W1.heap.size ≤ b := hd.1; omega, by have h1 : b < w2.heap.size := hd.2; rw [size_four]; omega⟩) (fun b o hd => World.cell?_of_block (a := ⟨b, o, none⟩) (heap_four _ _ _ _ _ _ _ (fun e => by have h1 : W1.heap.size ≤ b := hd.1; have e2 : b = w.heap.size := e; omega))) HRD.out⟩
    · have hne : ((q : Int) != (s.size : Int)) = true := by simp; omega
      have HS2 := Lib.hid (show readP s.data.toList = (none, 2) by rw [HS.out, if_pos (by omega)])
      clear hqs hlq
      go_wp2_with fail
      refine bodyPost_ret (v := .tuple #[leaf 0 ⟨#[]⟩, .int .i64 2]) (by simp [results, Tryd.results9, go_sem, leaf, x0, x1, x2, x3]) rfl ?_
      rw [HS2.out]
      exact ⟨HB4.out _ _ _ _, _, rfl, rfl⟩

theorem refRead_any (s : ByteArray) (w : World) : Calls Tryd.prog 9 #[.string s] w (ReadIs (s.size + 1) w (readP s.data.toList)) := by
  by_cases h : s.size ≤ 4000
  · exact refRead_fit s w h
  · exact refRead_big s w (by omega)

end Go.Proofs.YtbcenaljaoejkaaDoor

/-
  What the document's Same answers: are two values one?
-/
namespace Go.Proofs.YtbcenaljaoejkaaDoor
open Go.RowKit

noncomputable def eqB (x y : JV) : Bool := @decide (x = y) (Classical.propDecidable _)
theorem eqB_true {x y : JV} (h : x = y) : eqB x y = true := by unfold eqB; exact @decide_eq_true _ (Classical.propDecidable _) h
theorem eqB_false {x y : JV} (h : x ≠ y) : eqB x y = false := by unfold eqB; exact @decide_eq_false _ (Classical.propDecidable _) h
theorem eqB_eq {x y : JV} (h : eqB x y = true) : x = y := by unfold eqB at h; exact @of_decide_eq_true _ (Classical.propDecidable _) h
theorem JV.ext' {x y : JV} (h1 : x.k = y.k) (h2 : x.s = y.s) (h3 : x.ns = y.ns) (h4 : x.ps = y.ps) : x = y := by
  cases x; cases y
  simp only [JV.k, JV.s, JV.ns, JV.ps] at h1 h2 h3 h4
  subst h1 h2 h3 h4
  rfl
theorem bytes_ext {a b : ByteArray} (h : a.toList = b.toList) : a = b := by
  rw [Lib.toList_data, Lib.toList_data] at h
  cases a; cases b
  exact congrArg ByteArray.mk (Array.toList_inj.1 h)
theorem drewN_below (w : World) (m : Nat) : Below w.heap.size w (w.drewN m) := ⟨rfl, rfl, rfl, Nat.le_refl _, fun _ _ => rfl⟩

def SameIs (x y : JV) (w : World) (e : Ending) (w' : World) : Prop := e = .returned (.bool (eqB x y)) ∧ Below w.heap.size w w'

def SNames (W : World) (x y : JV) (k : Nat) (v : Value) (wr : World) : Prop :=
  ∃ i m, k = x.ns.length - i ∧ i ≤ x.ns.length ∧ v = .int .i64 (i : Nat) ∧ wr = W.drewN m ∧ ∀ t, t < i → x.ns[t]? = y.ns[t]?
def SParts (W : World) (x y : JV) (k : Nat) (v : Value) (wr : World) : Prop :=
  ∃ i, k = x.ps.length - i ∧ i ≤ x.ps.length ∧ v = .int .i64 (i : Nat) ∧ Below W.heap.size W wr ∧ ∀ t, t < i → x.ps[t]? = y.ps[t]?

theorem lists_ext {α : Type} {a b : List α} (hl : a.length = b.length) (h : ∀ t, t < a.length → a[t]? = b[t]?) : a = b := by
  refine List.ext_getElem? fun t => ?_
  by_cases ht : t < a.length
  · exact h t ht
  · rw [List.getElem?_eq_none (by omega), List.getElem?_eq_none (by omega)]

/-- The two boxes. -/
structure Two (W : World) (A : Nat) (x y : JV) (an : Option Addr) (cn : Nat) (ap : Option Addr) (cp : Nat) (an' : Option Addr) (cn' : Nat) (ap' : Option Addr) (cp' : Nat) : Prop where
  a0 : W.cell? ⟨A, 0, none⟩ = some (.int .i64 x.k)
  a1 : W.cell? ⟨A, 1, none⟩ = some (.string x.s)
  a2 : W.cell? ⟨A, 2, none⟩ = some (.slice an x.ns.length cn)
  a3 : W.cell? ⟨A, 3, none⟩ = some (.slice ap x.ps.length cp)
  b0 : W.cell? ⟨A + 1, 0, none⟩ = some (.int .i64 y.k)
  b1 : W.cell? ⟨A + 1, 1, none⟩ = some (.string y.s)
  b2 : W.cell? ⟨A + 1, 2, none⟩ = some (.slice an' y.ns.length cn')
  b3 : W.cell? ⟨A + 1, 3, none⟩ = some (.slice ap' y.ps.length cp')
theorem Two.below {W W' : World} {A : Nat} {x y : JV} {an : Option Addr} {cn : Nat} {ap : Option Addr} {cp : Nat} {an' : Option Addr} {cn' : Nat} {ap' : Option Addr} {cp' : Nat} (h : Two W A x y an cn ap cp an' cn' ap' cp') {n : Nat} (hb : Below n W W') (hn : A + 2 ≤ n) : Two W' A x y an cn ap cp an' cn' ap' cp' := by
  have c : ∀ k o, k < n → W'.cell? ⟨k, o, none⟩ = W.cell? ⟨k, o, none⟩ := fun k o hk => hb.cell (p := ⟨k, o, none⟩) hk
  exact ⟨(c _ _ (by omega)).trans h.a0, (c _ _ (by omega)).trans h.a1, (c _ _ (by omega)).trans h.a2, (c _ _ (by omega)).trans h.a3, (c _ _ (by omega)).trans h.b0, (c _ _ (by omega)).trans h.b1, (c _ _ (by omega)).trans h.b2, (c _ _ (by omega)).trans h.b3⟩

set_option maxHeartbeats 8000000 in
set_option maxRecDepth 100000 in
theorem refsame_step (n B : Nat) (x y : JV) (va vb : Value) (m : Nat) (w : World) (hB : B ≤ w.heap.size) (hx : Rd w B (n + 1) x va) (hy : Rd w B (m + 1) y vb)
    (ih : ∀ (x y : JV) (va vb : Value) (W : World), B ≤ W.heap.size → Rd W B n x va → Rd W B m y vb → Calls Tryd.prog 10 #[va, vb] W (SameIs x y W)) :
    Calls Tryd.prog 10 #[va, vb] w (SameIs x y w) := by
  obtain ⟨an, cn, ap, cp, rfl, ⟨z1, z2, z3, z4, z5⟩, hs, hr⟩ := hx
  obtain ⟨an', cn', ap', cp', rfl, ⟨z1', z2', z3', z4', z5'⟩, hs', hr'⟩ := hy
  have HI := Lib.hid ih
  obtain ⟨W, hW⟩ : ∃ W, W = ((w.alloc (.cells #[.int .i64 x.k, .string x.s, .slice an x.ns.length cn, .slice ap x.ps.length cp] 26)).alloc (.cells #[.int .i64 y.k, .string y.s, .slice an' y.ns.length cn', .slice ap' y.ps.length cp'] 26)) := ⟨_, rfl⟩
  have hWz : W.heap.size = w.heap.size + 2 := by rw [hW]; simp
  have hbW : Below w.heap.size w W := by rw [hW]; exact ((Below.refl _ w).alloc (Nat.le_refl _) _).alloc (by simp) _
  have hT : Two W w.heap.size x y an cn ap cp an' cn' ap' cp' := by
    rw [hW]
    refine ⟨?_, ?_, ?_, ?_, ?_, ?_, ?_, ?_⟩ <;> go_simp
  have hsW := hs.below (hbW.mono hB)
  have hsW' := hs'.below (hbW.mono hB)
  have hrW := hr.below (hbW.mono hB)
  have hrW' := hr'.below (hbW.mono hB)
  have HW := Lib.hid hW
  have HT := Lib.hid hT
  have HS := Lib.hid hsW
  have HS' := Lib.hid hsW'
  have HRr := Lib.hid hrW
  have HRr' := Lib.hid hrW'
  clear hs hs' hr hr' hsW hsW' hrW hrW' ih hW hT
  obtain ⟨a0, a1, a2, a3, b0, b1, b2, b3⟩ := HT.out
  by_cases e1 : x.k = y.k
  · by_cases e2 : x.s.toList = y.s.toList
    · by_cases e3 : x.ns.length = y.ns.length
      · by_cases e4 : x.ps.length = y.ps.length
        · have d1 : (x.k != y.k) = false := by simpa using e1
          have d2 : (x.s.toList == y.s.toList) = true := by simpa using e2
          have d3 : ((x.ns.length : Int) != (y.ns.length : Int)) = false := by simp; omega
          have d4 : ((x.ps.length : Int) != (y.ps.length : Int)) = false := by simp; omega
          have E1 := Lib.hid e1
          have E2 := Lib.hid (bytes_ext e2)
          have E3 := Lib.hid e3
          have E4 := Lib.hid e4
          clear e1 e2 e3 e4
          go_enter Tryd.func10, Tryd.ntmps10
          go_wp2_with fail
          rw [← HW.out]
          clear d1 d2 d3 d4
          go_loopg [5] x.ns.length (fun k v wr => SNames W x y k v wr)
          case atStart => exact ⟨0, 0, rfl, Nat.zero_le _, rfl, rfl, fun t h => absurd h (by omega)⟩
          case round =>
            obtain ⟨i, q, rfl, hi, rfl, rfl, heq⟩ := hrel
            have HQ := Lib.hid heq
            clear heq
            by_cases hlt : i < x.ns.length
            · have hlt' : i < y.ns.length := by have := E3.out; omega
              obtain ⟨b, off, rfl, hb, _, hc⟩ := HS.out.at_ hlt
              obtain ⟨b', off', rfl, hb', _, hc'⟩ := HS'.out.at_ hlt'
              have G1 := Lib.hid (List.getElem?_eq_getElem hlt)
              have G2 := Lib.hid (List.getElem?_eq_getElem hlt')
              have hd : decide ((i : Int) < (x.ns.length : Int)) = true := decide_eq_true (by omega)
              generalize x.ns[i] = u at *
              generalize y.ns[i] = v at *
              by_cases he : u.toList = v.toList
              · have d5 : (u.toList == v.toList) = true := by simpa using he
                have HE := Lib.hid (bytes_ext he)
                clear he
                go_upto_region 6 with fail
                go_quiet (fail)
                go_wp2_with fail
                go_roundg (x.ns.length - (i + 1))
                case measure => omega
                case rel => exact ⟨i + 1, _, rfl, by omega, by go_num, rfl, fun t ht => by
                  by_cases h : t < i
                  · exact HQ.out t h
                  · obtain rfl : t = i := by omega
                    rw [G1.out, G2.out, HE.out]⟩
              · have d5 : (u.toList == v.toList) = false := by simpa using he
                have HF : Hid (eqB x y = false) := Lib.hid (eqB_false fun h => he (by
                  have h1 := G1.out
                  have h2 := G2.out
                  rw [h] at h1
                  rw [h1] at h2
                  rw [Option.some.inj h2]))
                clear he
                go_upto_region 6 with fail
                go_quiet (fail)
                go_wp2_with fail
                go_ret
                exact ⟨by rw [HF.out]; rfl, hbW.trans (((drewN_below W _).mono (by omega)).trans ((drewN_below _ _).mono (by show w.heap.size ≤ W.heap.size; omega)))⟩
            · have HNS := Lib.hid (lists_ext E3.out (fun t ht => HQ.out t (by omega)))
              have hd : decide ((i : Int) < (x.ns.length : Int)) = false := decide_eq_false (by omega)
              go_wp2_with fail
              go_loopg [6] x.ps.length (fun k v wr => SParts W x y k v wr)
              case atStart => exact ⟨0, rfl, Nat.zero_le _, rfl, drewN_below W _, fun t h => absurd h (by omega)⟩
              case round =>
                obtain ⟨j, rfl, hj, rfl, hbr, heq⟩ := hrel
                have HQ2 := Lib.hid heq
                clear heq
                have hT2 := HT.out.below hbr (by omega)
                obtain ⟨g0, g1, g2, g3, k0, k1, k2, k3⟩ := hT2
                have hzr := hbr.size
                clear a0 a1 a2 a3 b0 b1 b2 b3
                by_cases hlt2 : j < x.ps.length
                · have hlt2' : j < y.ps.length := by have := E4.out; omega
                  have hd2 : decide ((j : Int) < (x.ps.length : Int)) = true := decide_eq_true (by omega)
                  obtain ⟨b, off, u, pan, pcn, pap, pcp, G1, rfl, hb, hRu, f0, f1, f2, f3⟩ := HRr.out.elem hlt2 (hbr.mono (by omega))
                  obtain ⟨b', off', v, pan', pcn', pap', pcp', G2, rfl, hb', hRv, f0', f1', f2', f3'⟩ := HRr'.out.elem hlt2' (hbr.mono (by omega))
                  have hC := HI.out u v _ _ wr.drew (by show B ≤ wr.heap.size; omega) (Rd.keep (w := wr) (w' := wr.drew) (fun _ _ _ => rfl) hRu) (Rd.keep (w := wr) (w' := wr.drew) (fun _ _ _ => rfl) hRv)
                  unfold SameIs at hC
                  clear hRu hRv
                  cases hE : eqB u v with
                  | true =>
                    rw [hE] at hC
                    have HC := Lib.hid hC
                    have HUV := Lib.hid (eqB_eq hE)
                    clear hC hE
                    go_upto_region 11 with fail
                    go_region_with ((go_at_call 10); (with_reducible refine HC.out.mono ?_); rintro e w5 ⟨rfl, b5⟩)
                    all_goals
                      go_wp2_with fail
                      go_roundg (x.ps.length - (j + 1))
                      case measure => omega
                      case rel => exact ⟨j + 1, rfl, by omega, by go_num, hbr.trans ⟨b5.os, b5.tape, b5.output, b5.size, fun k hk => b5.block k (Nat.lt_of_lt_of_le hk hzr)⟩, fun t ht => by
                        by_cases h : t < j
                        · exact HQ2.out t h
                        · obtain rfl : t = j := by omega
                          rw [List.getElem?_eq_getElem hlt2, List.getElem?_eq_getElem hlt2', G1.out, G2.out, HUV.out]⟩
                  | false =>
                    rw [hE] at hC
                    have HC := Lib.hid hC
                    have HF : Hid (eqB x y = false) := Lib.hid (eqB_false fun h => by
                      have h1 := G1.out
                      have h2 := G2.out
                      subst h
                      rw [← h1, ← h2, eqB_true rfl] at hE
                      cases hE)
                    clear hC hE
                    go_upto_region 11 with fail
                    go_region_with ((go_at_call 10); (with_reducible refine HC.out.mono ?_); rintro e w5 ⟨rfl, b5⟩)
                    all_goals
                      go_wp2_with fail
                      go_ret
                      exact ⟨by rw [HF.out]; rfl, hbW.trans ((hbr.mono (by omega)).trans ⟨b5.os, b5.tape, b5.output, b5.size, fun k hk => b5.block k (by show k < wr.heap.size; omega)⟩)⟩
                · have hd2 : decide ((j : Int) < (x.ps.length : Int)) = false := decide_eq_false (by omega)
                  have HX := Lib.hid (JV.ext' E1.out E2.out HNS.out (lists_ext E4.out (fun t ht => HQ2.out t (by omega))))
                  go_wp2_with fail
                  go_ret
                  exact ⟨by rw [eqB_true HX.out]; rfl, hbW.trans (hbr.mono (by omega))⟩
        · have HF : Hid (eqB x y = false) := Lib.hid (eqB_false fun h => e4 (by rw [h]))
          have d1 : (x.k != y.k) = false := by simpa using e1
          have d2 : (x.s.toList == y.s.toList) = true := by simpa using e2
          have d3 : ((x.ns.length : Int) != (y.ns.length : Int)) = false := by simp; omega
          have d4 : ((x.ps.length : Int) != (y.ps.length : Int)) = true := by simp; omega
          clear e1 e2 e3 e4
          go_enter Tryd.func10, Tryd.ntmps10
          go_wp2_with fail
          go_ret
          rw [← HW.out]
          exact ⟨by rw [HF.out]; rfl, hbW⟩
      · have HF : Hid (eqB x y = false) := Lib.hid (eqB_false fun h => e3 (by rw [h]))
        have d1 : (x.k != y.k) = false := by simpa using e1
        have d2 : (x.s.toList == y.s.toList) = true := by simpa using e2
        have d3 : ((x.ns.length : Int) != (y.ns.length : Int)) = true := by simp; omega
        clear e1 e2 e3
        go_enter Tryd.func10, Tryd.ntmps10
        go_wp2_with fail
        go_ret
        rw [← HW.out]
        exact ⟨by rw [HF.out]; rfl, hbW⟩
    · have HF : Hid (eqB x y = false) := Lib.hid (eqB_false fun h => e2 (by rw [h]))
      have d1 : (x.k != y.k) = false := by simpa using e1
      have d2 : (x.s.toList == y.s.toList) = false := by simpa using e2
      clear e1 e2
      go_enter Tryd.func10, Tryd.ntmps10
      go_wp2_with fail
      go_ret
      rw [← HW.out]
      exact ⟨by rw [HF.out]; rfl, hbW⟩
  · have HF : Hid (eqB x y = false) := Lib.hid (eqB_false fun h => e1 (by rw [h]))
    have d1 : (x.k != y.k) = true := by simpa using e1
    clear e1
    go_enter Tryd.func10, Tryd.ntmps10
    go_wp2_with fail
    go_ret
    rw [← HW.out]
    exact ⟨by rw [HF.out]; rfl, hbW⟩

theorem refsame_any (B : Nat) : ∀ (n m : Nat) (x y : JV) (va vb : Value) (w : World), B ≤ w.heap.size → Rd w B n x va → Rd w B m y vb → Calls Tryd.prog 10 #[va, vb] w (SameIs x y w)
  | 0, _, _, _, _, _, _, _, h, _ => h.elim
  | _ + 1, 0, _, _, _, _, _, _, _, h => h.elim
  | n + 1, m + 1, x, y, va, vb, w, hB, hx, hy => refsame_step n B x y va vb m w hB hx hy fun x y va vb W hB hx hy => refsame_any B n m x y va vb W hB hx hy

end Go.Proofs.YtbcenaljaoejkaaDoor

/-
  JreadAll's walk.
-/
namespace Go.Proofs.YtbcenaljaoejkaaDoor
open Go.RowKit

def zJ : JV := .mk 0 ⟨#[]⟩ [] []
/-- What Read answers, read as a tree: the value, or the zero one. -/
theorem ReadIs.tree {n : Nat} {w w' : World} {o : Option JV × Nat} {e : Ending} (h : ReadIs (n + 1) w o e w') : Below w.heap.size w w' ∧ ∃ v, e = .returned (.tuple #[v, .int .i64 o.2]) ∧ Rd w' w'.heap.size (n + 1) (o.1.getD zJ) v := by
  obtain ⟨hb, v, he, hm⟩ := h
  refine ⟨hb, v, he, ?_⟩
  cases ho : o.1 with
  | some x => rw [ho] at hm; exact RdD.toB (fun b hb => hb.2) hm
  | none => rw [ho] at hm; rw [hm]; exact RdD.toB (fun b hb => hb) (rd_leaf w' (fun b => b < w'.heap.size) n 0 ⟨#[]⟩ (by decide))

set_option maxHeartbeats 4000000 in
set_option maxRecDepth 100000 in
theorem jreadAll_walk (s : ByteArray) (w : World) : Calls Tryd.prog 3 #[.string s] w (TrueBelow w) := by
  by_cases h : 6000 < s.size
  · have hd : decide ((6000 : Int) < s.size) = true := decide_eq_true (by omega)
    go_enter Tryd.func3, Tryd.ntmps3
    go_wp2_with ((go_at_call 7); (with_reducible refine (awake_true _).mono ?_); rintro e w7 ⟨rfl, b7⟩)
    go_ret
    exact ⟨rfl, b7⟩
  · have hd : decide ((6000 : Int) < s.size) = false := decide_eq_false (by omega)
    have H1 := fun W => read_any s W
    have H2 := fun W => refRead_any s W
    obtain ⟨o, ho⟩ : ∃ o, readP s.data.toList = o := ⟨_, rfl⟩
    rw [ho] at H1 H2
    obtain ⟨x, c⟩ := o
    clear ho
    go_enter Tryd.func3, Tryd.ntmps3
    go_upto_region 4 with ((go_at_call 8); (with_reducible refine (H1 _).mono ?_); rintro e w1 he1; obtain ⟨b1, v1, rfl, hR1⟩ := he1.tree; obtain ⟨an, cn, ap, cp, rfl⟩ := hR1.shape)
    obtain ⟨W1, hW1⟩ : ∃ W1, W1 = w1.alloc (.cells #[.int .i64 (x.getD zJ).k, .string (x.getD zJ).s, .slice an (x.getD zJ).ns.length cn, .slice ap (x.getD zJ).ps.length cp] 26) := ⟨_, rfl⟩
    rw [← hW1]
    have hs1 : W1.heap.size = w1.heap.size + 1 := by rw [hW1]; simp
    have B1 : Below w1.heap.size w1 W1 := by rw [hW1]; exact (Below.refl _ w1).alloc (Nat.le_refl _) _
    have k0 : ∀ j, W1.cell? ⟨w1.heap.size, j, none⟩ = (#[Value.int .i64 (x.getD zJ).k, .string (x.getD zJ).s, .slice an (x.getD zJ).ns.length cn, .slice ap (x.getD zJ).ps.length cp] : Array Value)[j]? := fun j => by rw [hW1]; go_simp
    have HK := Lib.hid k0
    have HR1 := Lib.hid hR1
    have bA : Below w.heap.size w W1 := b1.trans (B1.mono b1.size)
    clear hW1 k0 hR1 he1
    go_upto_region 5 with ((go_at_call 9); (with_reducible refine (H2 _).mono ?_); rintro e w2 he2; obtain ⟨b2, v2, rfl, hR2⟩ := he2.tree; obtain ⟨an', cn', ap', cp', rfl⟩ := hR2.shape)
    obtain ⟨W2, hW2⟩ : ∃ W2, W2 = w2.alloc (.cells #[.int .i64 (x.getD zJ).k, .string (x.getD zJ).s, .slice an' (x.getD zJ).ns.length cn', .slice ap' (x.getD zJ).ps.length cp'] 26) := ⟨_, rfl⟩
    rw [← hW2]
    have hs2 : W2.heap.size = w2.heap.size + 1 := by rw [hW2]; simp
    have hz2 := b2.size
    have B2 : Below w2.heap.size w2 W2 := by rw [hW2]; exact (Below.refl _ w2).alloc (Nat.le_refl _) _
    have k1 : ∀ j, W2.cell? ⟨w2.heap.size, j, none⟩ = (#[Value.int .i64 (x.getD zJ).k, .string (x.getD zJ).s, .slice an' (x.getD zJ).ns.length cn', .slice ap' (x.getD zJ).ps.length cp'] : Array Value)[j]? := fun j => by rw [hW2]; go_simp
    have k2 : ∀ j, W2.cell? ⟨w1.heap.size, j, none⟩ = (#[Value.int .i64 (x.getD zJ).k, .string (x.getD zJ).s, .slice an (x.getD zJ).ns.length cn, .slice ap (x.getD zJ).ps.length cp] : Array Value)[j]? := fun j => ((B2.cell (p := ⟨w1.heap.size, j, none⟩) (by show w1.heap.size < _; omega)).trans (b2.cell (p := ⟨w1.heap.size, j, none⟩) (by show w1.heap.size < _; omega))).trans (HK.out j)
    have BB : Below W1.heap.size W1 W2 := b2.trans (B2.mono b2.size)
    have SM := refsame_any W2.heap.size _ _ (x.getD zJ) (x.getD zJ) _ _ W2 (Nat.le_refl _) (((HR1.out.below B1).more (by omega)).below BB |>.more BB.size) ((hR2.below B2).more (by omega))
    unfold SameIs at SM
    rw [eqB_true rfl] at SM
    have g0 := k2 0
    have g1 := k2 1
    have g2 := k2 2
    have g3 := k2 3
    have y0 := k1 0
    have y1 := k1 1
    have y2 := k1 2
    have y3 := k1 3
    have bW : Below w.heap.size w W2 := bA.trans (BB.mono bA.size)
    have hcc : ((c : Int) == (c : Int)) = true := by simp
    clear hW2 k1 k2 hR2 he2 H1 H2
    generalize x.getD zJ = z at *
    go_wp2_with (first | ((go_at_call 10); (with_reducible refine SM.mono ?_); rintro e w5 ⟨rfl, b5⟩) | ((go_at_call 7); (with_reducible refine (awake_true _).mono ?_); rintro e w7 ⟨rfl, b7⟩))
    go_ret
    have b6 := bW.trans (b5.mono bW.size)
    exact ⟨rfl, b6.trans (b7.mono b6.size)⟩

end Go.Proofs.YtbcenaljaoejkaaDoor
