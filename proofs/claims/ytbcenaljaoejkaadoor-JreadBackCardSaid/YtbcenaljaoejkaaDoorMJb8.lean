/-
  JreadBack: what is written is read, with blanks behind the signs or without.
-/
import Derived.Test.YtbcenaljaoejkaaDoorJa
import Derived.Test.YtbcenaljaoejkaaDoorBack2
import Derived.Test.YtbcenaljaoejkaaDoorText
import Derived.Test.YtbcenaljaoejkaaDoorText2
import Derived.Test.YtbcenaljaoejkaaDoorNumForms
import Derived.Test.YtbcenaljaoejkaaDoorMMade5
import Derived.Test.YtbcenaljaoejkaaDoorMRt
import Derived.Test.YtbcenaljaoejkaaDoorJd2
import Derived.Deep.DeepCutAuto
namespace Go.Proofs.YtbcenaljaoejkaaDoor
open Go.RowKit

/-! ### texts in quotes -/
theorem hexD_ne (n : Nat) (h : n < 16) : hexD n ≠ 34 ∧ hexD n ≠ 92 := by
  match n, h with
  | 0, _ | 1, _ | 2, _ | 3, _ | 4, _ | 5, _ | 6, _ | 7, _ | 8, _ | 9, _ | 10, _ | 11, _ | 12, _ | 13, _ | 14, _ | 15, _ => decide
  | n + 16, h => exact absurd h (by omega)
theorem qLen_plain {b : UInt8} (h1 : b ≠ 34) (h2 : b ≠ 92) (z : List UInt8) : qLen (b :: z) = 1 + qLen z := by rw [qLen_cons, if_neg h1, if_neg h2]
theorem qLen_esc (c : UInt8) (z : List UInt8) : qLen (92 :: c :: z) = 2 + qLen z := by rw [qLen_cons, if_neg (by decide), if_pos rfl]; rfl
theorem qLen_chunk (b : UInt8) (z : List UInt8) : qLen (escB b ++ z) = (escB b).length + qLen z := by
  unfold escB
  split
  · exact qLen_esc _ _
  · rename_i hl
    split
    · have h1 := hexD_ne (b.toNat / 16) (by have := b.toNat_lt; omega)
      have h2 := hexD_ne (b.toNat % 16) (by omega)
      show qLen (92 :: 117 :: 48 :: 48 :: hexD (b.toNat / 16) :: hexD (b.toNat % 16) :: z) = 6 + qLen z
      rw [qLen_esc, qLen_plain (by decide) (by decide), qLen_plain (by decide) (by decide), qLen_plain h1.1 h1.2, qLen_plain h2.1 h2.2]
      omega
    · refine qLen_plain ?_ ?_ z
      · rintro rfl; exact hl (by decide)
      · rintro rfl; exact hl (by decide)
theorem qLen_in : ∀ (l z : List UInt8), qLen (quoteIn l ++ 34 :: z) = (quoteIn l).length
  | [], z => by
    show qLen (34 :: z) = 0
    rw [qLen_cons, if_pos rfl]
  | b :: l, z => by
    have e : quoteIn (b :: l) = escB b ++ quoteIn l := rfl
    rw [e, List.append_assoc, qLen_chunk, qLen_in l z, List.length_append]
/-- A quoted text, and what stands behind it. -/
theorem qt_quote (l r : List UInt8) (hv : Lib.validD l = true) : qt (quoteB l ++ r) = some (l, r) := by
  have hq := unq_quote l hv
  have e : quoteB l = 34 :: (quoteIn l ++ [34]) := by unfold quoteB; rw [if_pos hv]
  have hl : qLen (List.drop 1 (quoteB l ++ r)) = (quoteIn l).length := by
    rw [e]
    show qLen ((quoteIn l ++ [34]) ++ r) = _
    rw [List.append_assoc]
    exact qLen_in l r
  have hz : (quoteB l).length = (quoteIn l).length + 2 := by rw [e]; simp
  unfold qt
  rw [hl, if_pos (by rw [List.length_append, hz]; omega), ← hz, List.take_left, hq, List.drop_left]
  rfl
theorem quote_hd (l r : List UInt8) (hv : Lib.validD l = true) : sk (quoteB l ++ r) = quoteB l ++ r ∧ hd (quoteB l ++ r) = 34 := by
  unfold quoteB
  rw [if_pos hv]
  exact ⟨rfl, rfl⟩

/-! ### blanks -/
def isBl (bl : List UInt8) : Prop := ∀ b ∈ bl, blankU b = true
theorem sk_bl {bl : List UInt8} (h : isBl bl) (z : List UInt8) : sk (bl ++ z) = sk z := by
  induction bl with
  | nil => rfl
  | cons b bl ih =>
    rw [List.cons_append, sk_cons, if_pos (h b (by simp))]
    exact ih fun c hc => h c (by simp [hc])
theorem pv_same {f dep : Nat} {d t : Bool} {a b : List UInt8} (h : sk a = sk b) : pv f dep d t a = pv f dep d t b := by rw [← pv_sk, h, pv_sk]
theorem listGo_same {f dep n : Nat} {xs : List JV} {d t : Bool} {a b : List UInt8} (h : sk a = sk b) : listGo (pv f dep) n a xs d t = listGo (pv f dep) n b xs d t := by rw [← listGo_sk, h, listGo_sk]
theorem objGo_same {V : Rdg} {n : Nat} {ns : List ByteArray} {xs : List JV} {d t : Bool} {a b : List UInt8} (h : sk a = sk b) : objGo V n a ns xs d t = objGo V n b ns xs d t := by rw [← objGo_sk, h, objGo_sk]

/-- Parts, with blanks behind the signs. -/
def bpts (bl : List UInt8) (f : JV → List UInt8) (ob : Bool) : Bool → List ByteArray → List JV → List UInt8
  | _, _, [] => []
  | fst, ns, p :: r => (if fst then [] else 44 :: bl) ++ ((if ob then quoteB (vbl (ns.headD ⟨#[]⟩)) ++ 58 :: bl else []) ++ (f p ++ bpts bl f ob false ns.tail r))
def btx (bl : List UInt8) : Nat → JV → List UInt8
  | 0, _ => []
  | m + 1, x => if x.k = 1 then nullL else if x.k = 5 then quoteB (vbl x.s) else if x.k = 7 then 91 :: (bl ++ (bpts bl (btx bl m) false true x.ns x.ps ++ 93 :: bl)) else if x.k = 8 then 123 :: (bl ++ (bpts bl (btx bl m) true true x.ns x.ps ++ 125 :: bl)) else vbl x.s

theorem bpts_nil (f g : JV → List UInt8) (h : ∀ x, f x = g x) (ob : Bool) : ∀ (fst : Bool) (ns : List ByteArray) (ps : List JV), bpts [] f ob fst ns ps = pts g ob fst ns ps
  | _, _, [] => rfl
  | fst, ns, p :: r => by
    unfold bpts pts
    rw [h p, bpts_nil f g h ob false ns.tail r]
theorem btx_nil : ∀ (n : Nat) (x : JV), btx [] n x = txt n x
  | 0, _ => rfl
  | n + 1, x => by
    unfold btx txt
    rw [bpts_nil (btx [] n) (txt n) (btx_nil n), bpts_nil (btx [] n) (txt n) (btx_nil n)]
    rfl

/-- What may stand behind a value: no sign that a number may have. -/
def After (r : List UInt8) : Prop := ∀ b, r.head? = some b → ¬ isNS b

/-- Every value is read as itself, whatever stands behind it. -/
def Back (bl : List UInt8) (n : Nat) (V : Rdg) (x : JV) : Prop := ∀ (t : Bool) (r : List UInt8), After r → ∃ r', V false t (btx bl n x ++ r) = some (x, r', false, t) ∧ sk r' = sk r

theorem back_list {bl : List UInt8} (hbl : isBl bl) {n f dep : Nat} : ∀ (ps : List JV) (p : JV) (xs : List JV) (ns : List ByteArray) (k : Nat) (t : Bool) (r : List UInt8), (∀ q ∈ p :: ps, Back bl n (pv f dep) q) → ps.length < k →
    listGo (pv f dep) k (btx bl n p ++ (bpts bl (btx bl n) false false ns ps ++ 93 :: (bl ++ r))) xs false t = some (.mk 7 e0 [] (xs ++ p :: ps), bl ++ r, false, t)
  | [], p, xs, ns, k, t, r, hb, hk => by
    obtain ⟨k, rfl⟩ : ∃ k', k = k' + 1 := ⟨k - 1, by omega⟩
    obtain ⟨r1, h1, h2⟩ := hb p (by simp) t (93 :: (bl ++ r)) (fun b hb => by simp at hb; subst hb; unfold isNS; decide)
    have e : bpts bl (btx bl n) false false ns [] ++ 93 :: (bl ++ r) = 93 :: (bl ++ r) := rfl
    have e2 : sk (93 :: (bl ++ r)) = 93 :: (bl ++ r) := rfl
    rw [e, listGo, h1]
    show (if hd (sk r1) = 93 then _ else _) = _
    rw [h2, e2, if_pos (show hd (93 :: (bl ++ r)) = 93 from rfl)]
    rfl
  | p2 :: ps, p, xs, ns, k, t, r, hb, hk => by
    have hlen : ps.length + 1 < k := hk
    obtain ⟨k, rfl⟩ : ∃ k', k = k' + 1 := ⟨k - 1, by omega⟩
    have e : bpts bl (btx bl n) false false ns (p2 :: ps) ++ 93 :: (bl ++ r) = 44 :: (bl ++ (btx bl n p2 ++ (bpts bl (btx bl n) false false ns.tail ps ++ 93 :: (bl ++ r)))) := by
      rw [bpts]
      simp
    obtain ⟨r1, h1, h2⟩ := hb p (by simp) t (44 :: (bl ++ (btx bl n p2 ++ (bpts bl (btx bl n) false false ns.tail ps ++ 93 :: (bl ++ r))))) (fun b hb => by simp at hb; subst hb; unfold isNS; decide)
    have e2 : ∀ z, sk (44 :: z) = 44 :: z := fun _ => rfl
    rw [e, listGo, h1]
    show (if hd (sk r1) = 93 then _ else if hd (sk r1) = 44 then _ else _) = _
    rw [h2, e2, if_neg (by show ¬ (44 : UInt8) = 93; decide), if_pos (by rfl)]
    show listGo (pv f dep) k (bl ++ _) _ _ _ = _
    rw [listGo_same (sk_bl hbl _), back_list hbl ps p2 (xs ++ [p]) ns.tail k t r (fun q hq => hb q (by simp at hq ⊢; exact .inr hq)) (by omega)]
    simp

/-- Names that stand behind others. -/
theorem nmGo_cons {seen : List (List UInt8)} {x : List UInt8} {l : List (List UInt8)} (h : nmGo seen (x :: l) = true) : x ∉ seen ∧ Lib.validD x = true ∧ nmGo (seen ++ [x]) l = true := by
  unfold nmGo at h
  simp only [Bool.and_eq_true, Bool.not_eq_true', decide_eq_false_iff_not] at h
  exact ⟨h.1.1, h.1.2, h.2⟩
theorem ofL_vbl (n : ByteArray) : ofL (vbl n) = n := of_list n

theorem back_obj {bl : List UInt8} (hbl : isBl bl) {n f dep : Nat} : ∀ (ps : List JV) (p : JV) (nm : ByteArray) (ns : List ByteArray) (ms : List ByteArray) (xs : List JV) (k : Nat) (t : Bool) (r : List UInt8), (∀ q ∈ p :: ps, Back bl n (pv f dep) q) → ps.length < k → ns.length = ps.length → nmGo (ms.map vbl) ((nm :: ns).map vbl) = true →
    objGo (pv f dep) k (quoteB (vbl nm) ++ 58 :: (bl ++ (btx bl n p ++ (bpts bl (btx bl n) true false ns ps ++ 125 :: (bl ++ r))))) ms xs false t = some (.mk 8 e0 (ms ++ nm :: ns) (xs ++ p :: ps), bl ++ r, false, t)
  | [], p, nm, ns, ms, xs, k, t, r, hb, hk, hl, hg => by
    obtain ⟨k, rfl⟩ : ∃ k', k = k' + 1 := ⟨k - 1, by omega⟩
    obtain rfl : ns = [] := List.eq_nil_of_length_eq_zero hl
    obtain ⟨g1, g2, _⟩ := nmGo_cons hg
    have hc : (ms.map vbl).contains (vbl nm) = false := by rw [Bool.eq_false_iff]; intro h; exact g1 (List.contains_iff_mem.1 h)
    obtain ⟨r1, h1, h2⟩ := hb p (by simp) t (125 :: (bl ++ r)) (fun b hb => by simp at hb; subst hb; unfold isNS; decide)
    obtain ⟨q1, q2⟩ := quote_hd (vbl nm) (58 :: (bl ++ (btx bl n p ++ (bpts bl (btx bl n) true false [] [] ++ 125 :: (bl ++ r))))) g2
    have e : bpts bl (btx bl n) true false [] [] ++ 125 :: (bl ++ r) = 125 :: (bl ++ r) := rfl
    have e2 : sk (125 :: (bl ++ r)) = 125 :: (bl ++ r) := rfl
    have e3 : ∀ z, sk (58 :: z) = 58 :: z := fun _ => rfl
    rw [objGo, q1, if_pos q2, qt_quote _ _ g2]
    show (if hd (sk (58 :: _)) = 58 then _ else _) = _
    rw [e3, if_pos (by rfl), hc, Bool.or_false]
    show (match pv f dep false t (bl ++ _) with | none => none | some (x, r2, d1, t1) => _) = _
    rw [pv_same (sk_bl hbl _), e, h1]
    show (if hd (sk r1) = 125 then _ else _) = _
    rw [h2, e2, if_pos (by rfl), ofL_vbl]
    rfl
  | p2 :: ps, p, nm, ns, ms, xs, k, t, r, hb, hk, hl, hg => by
    have hlen : ps.length + 1 < k := hk
    obtain ⟨k, rfl⟩ : ∃ k', k = k' + 1 := ⟨k - 1, by omega⟩
    obtain ⟨nm2, ns, rfl⟩ : ∃ a b, ns = a :: b := by
      cases ns with
      | nil => cases hl
      | cons a b => exact ⟨a, b, rfl⟩
    obtain ⟨g1, g2, g3⟩ := nmGo_cons hg
    have hc : (ms.map vbl).contains (vbl nm) = false := by rw [Bool.eq_false_iff]; intro h; exact g1 (List.contains_iff_mem.1 h)
    have e : bpts bl (btx bl n) true false (nm2 :: ns) (p2 :: ps) ++ 125 :: (bl ++ r) = 44 :: (bl ++ (quoteB (vbl nm2) ++ 58 :: (bl ++ (btx bl n p2 ++ (bpts bl (btx bl n) true false ns ps ++ 125 :: (bl ++ r)))))) := by
      rw [bpts]
      simp
    obtain ⟨r1, h1, h2⟩ := hb p (by simp) t (44 :: (bl ++ (quoteB (vbl nm2) ++ 58 :: (bl ++ (btx bl n p2 ++ (bpts bl (btx bl n) true false ns ps ++ 125 :: (bl ++ r))))))) (fun b hb => by simp at hb; subst hb; unfold isNS; decide)
    obtain ⟨q1, q2⟩ := quote_hd (vbl nm) (58 :: (bl ++ (btx bl n p ++ (bpts bl (btx bl n) true false (nm2 :: ns) (p2 :: ps) ++ 125 :: (bl ++ r))))) g2
    have e2 : ∀ z, sk (44 :: z) = 44 :: z := fun _ => rfl
    have e3 : ∀ z, sk (58 :: z) = 58 :: z := fun _ => rfl
    rw [objGo, q1, if_pos q2, qt_quote _ _ g2]
    show (if hd (sk (58 :: _)) = 58 then _ else _) = _
    rw [e3, if_pos (by rfl), hc, Bool.or_false]
    show (match pv f dep false t (bl ++ _) with | none => none | some (x, r2, d1, t1) => _) = _
    rw [pv_same (sk_bl hbl _), e, h1]
    show (if hd (sk r1) = 125 then _ else if hd (sk r1) = 44 then _ else _) = _
    rw [h2, e2, if_neg (by show ¬ (44 : UInt8) = 125; decide), if_pos (by rfl)]
    show objGo (pv f dep) k (bl ++ _) _ _ _ _ = _
    rw [objGo_same (sk_bl hbl _), ofL_vbl, back_obj hbl ps p2 nm2 ns (ms ++ [nm]) (xs ++ [p]) k t r (fun q hq => hb q (by simp at hq ⊢; exact .inr hq)) (by omega) (by simpa using hl) (by rw [List.map_append]; exact g3)]
    simp

end Go.Proofs.YtbcenaljaoejkaaDoor

/-
  Unlike values have unlike texts: a value's text, with what may stand behind it, says the value.
-/
namespace Go.Proofs.YtbcenaljaoejkaaDoor
open Go.RowKit

/-! ### Numbers -/
def numC (b : UInt8) : Bool := digU b || b == 45 || b == 46 || b == 43 || b == 101 || b == 69
theorem taken {p : UInt8 → Bool} : ∀ {l : List UInt8} {b : UInt8}, b ∈ l.takeWhile p → p b = true
  | [], _, h => by cases h
  | a :: t, b, h => by
    rw [List.takeWhile_cons] at h
    split at h
    · rcases List.mem_cons.1 h with e | e
      · subst e; assumption
      · exact taken e
    · cases h
theorem dd_all {l : List UInt8} (h : (dd l).all numC = true) : l.all numC = true := by
  unfold dd at h
  rw [← List.takeWhile_append_dropWhile (p := digU) (l := l), List.all_append, h, Bool.and_true, List.all_eq_true]
  intro b hb
  have := taken hb
  unfold numC
  rw [this]
  rfl
theorem trim_all {l : List UInt8} {c : UInt8} (hc : numC c = true) (h : (Lib.trimPrefix l [c]).all numC = true) : l.all numC = true := by
  unfold Lib.trimPrefix Lib.hasPrefix at h
  split at h
  · rename_i hp
    cases l with
    | nil => rfl
    | cons a t =>
      simp [List.isPrefixOf] at hp
      subst hp
      simp at h
      rw [List.all_cons, hc, Bool.true_and, List.all_eq_true]
      exact h
  · exact h
theorem num_all {l : List UInt8} (h : numOk l = true) : l.all numC = true := by
  unfold numOk at h
  simp only [Bool.and_eq_true] at h
  obtain ⟨_, ⟨⟨h1, h2⟩, h3⟩, h4⟩ := h
  have e0 : (numE l).1.all numC = true := by
    cases he : (numE l).1 with
    | nil => rfl
    | cons a t => rw [he] at h4; cases h4
  have e1 : (numF l).1.all numC = true := by
    unfold numE cutExponentP at e0
    split at e0
    · rename_i hb
      have h5 := dd_all e0
      cases hl : (numF l).1 with
      | nil => rfl
      | cons a t =>
        rw [hl] at hb h5
        have ha : numC a = true := by
          unfold beginB at hb
          simp at hb
          rcases hb with e | e <;> subst e <;> decide
        rw [List.all_cons, ha, Bool.true_and]
        unfold signCut at h5
        simp only [List.drop_succ_cons, List.drop_zero] at h5
        split at h5
        · rename_i hs
          cases t with
          | nil => rfl
          | cons c r =>
            have hc : numC c = true := by
              unfold beginB at hs
              simp at hs
              rcases hs with e | e <;> subst e <;> decide
            rw [List.all_cons, hc, Bool.true_and]
            simpa using h5
        · exact h5
    · exact e0
  have e2 : (numW l).1.all numC = true := by
    unfold numF cutFractionP at e1
    split at e1
    · exact trim_all (by decide) (dd_all e1)
    · exact e1
  unfold numW cutWholeP at e2
  split at e2
  · exact trim_all (c := 45) (by decide) (trim_all (by decide) e2)
  · exact trim_all (c := 45) (by decide) (dd_all e2)
theorem num_head {l : List UInt8} (h : numOk l = true) : ∃ a t, l = a :: t ∧ (digU a || a == 45) = true := by
  unfold numOk at h
  simp only [Bool.and_eq_true] at h
  obtain ⟨_, ⟨⟨h1, _⟩, _⟩, _⟩ := h
  cases l with
  | nil => exact absurd h1 (by decide)
  | cons a t =>
    refine ⟨a, t, rfl, ?_⟩
    by_cases ha : a = 45
    · subst ha; simp
    · have e : Lib.trimPrefix (a :: t) [45] = a :: t := by
        unfold Lib.trimPrefix Lib.hasPrefix
        rw [if_neg]
        simp [List.isPrefixOf]
        exact fun e => ha e.symm
      unfold numW at h1
      rw [e] at h1
      unfold cutWholeP at h1
      split at h1
      · rename_i hp
        simp [Lib.hasPrefix, List.isPrefixOf] at hp
        subst hp
        rfl
      · unfold cutDigitsP dd at h1
        simp only [decide_eq_true_eq] at h1
        cases hd : digU a with
        | true => rfl
        | false =>
          rw [List.dropWhile_cons, hd] at h1
          simp at h1

/-- What may stand behind a value. -/
def stopB (r : List UInt8) : Bool := match r with
  | [] => true
  | b :: _ => b == 44 || b == 93 || b == 125
theorem stop_not {b : UInt8} (h : (b == 44 || b == 93 || b == 125) = true) : numC b = false := by
  simp only [Bool.or_eq_true, beq_iff_eq] at h
  rcases h with (h | h) | h <;> subst h <;> decide
theorem run_cut : ∀ (l m r r' : List UInt8), l.all numC = true → m.all numC = true → stopB r = true → stopB r' = true → l ++ r = m ++ r' → l = m ∧ r = r'
  | [], [], r, r', _, _, _, _, e => ⟨rfl, by simpa using e⟩
  | [], b :: m, r, r', _, hm, hr, _, e => by
    exfalso
    simp only [List.nil_append, List.cons_append] at e
    subst e
    have := stop_not hr
    simp only [List.all_cons, Bool.and_eq_true] at hm
    rw [hm.1] at this
    cases this
  | a :: l, [], r, r', hl, _, _, hr', e => by
    exfalso
    simp only [List.nil_append, List.cons_append] at e
    subst e
    have := stop_not hr'
    simp only [List.all_cons, Bool.and_eq_true] at hl
    rw [hl.1] at this
    cases this
  | a :: l, b :: m, r, r', hl, hm, hr, hr', e => by
    simp only [List.cons_append, List.cons.injEq] at e
    simp only [List.all_cons, Bool.and_eq_true] at hl hm
    obtain ⟨e1, e2⟩ := run_cut l m r r' hl.2 hm.2 hr hr' e.2
    exact ⟨by rw [e.1, e1], e2⟩

/-! ### Texts in quotes -/
/-- Read back what was made of one byte. -/
def hexVI (b : UInt8) : Nat := if b.toNat < 58 then b.toNat - 48 else b.toNat - 87
def backC (c : UInt8) : Nat := if c = 98 then 8 else if c = 116 then 9 else if c = 110 then 10 else if c = 102 then 12 else if c = 114 then 13 else c.toNat
def unesc : List UInt8 → Nat × List UInt8
  | [] => (0, [])
  | a :: t => if a = 92 then (match t with
      | [] => (0, [])
      | c :: r => if c = 117 then (match r with
          | _ :: _ :: x :: y :: q => (hexVI x * 16 + hexVI y, q)
          | _ => (0, []))
        else (backC c, r))
    else (a.toNat, t)
def escOk (n : Nat) : Bool := match escB (UInt8.ofNat n) with
  | [a] => a != 92 && a != 34 && a.toNat == n
  | [a, c] => a == 92 && c != 117 && backC c == n
  | [a, c, _, _, x, y] => a == 92 && c == 117 && hexVI x * 16 + hexVI y == n
  | _ => false
theorem escOk_all : ∀ n : Fin 256, escOk n.val = true := by decide +kernel
theorem unesc_esc (b : UInt8) (t : List UInt8) : unesc (escB b ++ t) = (b.toNat, t) ∧ (escB b ++ t).head? ≠ some 34 := by
  have h := escOk_all ⟨b.toNat, b.toNat_lt⟩
  unfold escOk at h
  simp only [UInt8.ofNat_toNat] at h
  split at h
  · rename_i a e
    rw [e]
    simp only [Bool.and_eq_true, bne_iff_ne, ne_eq, beq_iff_eq] at h
    simp [unesc, h.1.1, h.1.2, h.2]
  · rename_i a c e
    rw [e]
    simp only [Bool.and_eq_true, bne_iff_ne, ne_eq, beq_iff_eq] at h
    obtain ⟨⟨h1, h2⟩, h3⟩ := h
    subst h1
    simp [unesc, h2, h3]
  · rename_i a c _ _ x y e
    rw [e]
    simp only [Bool.and_eq_true, beq_iff_eq] at h
    obtain ⟨⟨h1, h2⟩, h3⟩ := h
    subst h1 h2
    simp [unesc, h3]
  · cases h
theorem quote_cut : ∀ (l m r r' : List UInt8), quoteIn l ++ 34 :: r = quoteIn m ++ 34 :: r' → l = m ∧ r = r'
  | [], [], r, r', e => ⟨rfl, by simpa [quoteIn] using e⟩
  | [], b :: m, r, r', e => by
    exfalso
    have e' : 34 :: r = escB b ++ (quoteIn m ++ 34 :: r') := by simpa [quoteIn] using e
    have := (unesc_esc b (quoteIn m ++ 34 :: r')).2
    rw [← e'] at this
    exact this rfl
  | a :: l, [], r, r', e => by
    exfalso
    have e' : escB a ++ (quoteIn l ++ 34 :: r) = 34 :: r' := by simpa [quoteIn] using e
    have := (unesc_esc a (quoteIn l ++ 34 :: r)).2
    rw [e'] at this
    exact this rfl
  | a :: l, b :: m, r, r', e => by
    have e' : escB a ++ (quoteIn l ++ 34 :: r) = escB b ++ (quoteIn m ++ 34 :: r') := by simpa [quoteIn] using e
    have h1 := (unesc_esc a (quoteIn l ++ 34 :: r)).1
    rw [e', (unesc_esc b (quoteIn m ++ 34 :: r')).1] at h1
    injection h1 with h1 h2
    obtain ⟨e1, e2⟩ := quote_cut l m r r' h2.symm
    exact ⟨by rw [UInt8.toNat_inj.1 h1, e1], e2⟩
theorem quoteB_cut {l m r r' : List UInt8} (hl : Lib.validD l = true) (hm : Lib.validD m = true) (e : quoteB l ++ r = quoteB m ++ r') : l = m ∧ r = r' := by
  unfold quoteB at e
  rw [if_pos hl, if_pos hm] at e
  simp only [List.cons_append, List.append_assoc, List.cons.injEq, true_and, List.nil_append] at e
  exact quote_cut l m r r' e

/-! ### A value's first byte says its kind -/
def cls (a : UInt8) : Int := if a = 110 then 1 else if a = 116 ∨ a = 102 then 2 else if (digU a || a == 45) = true then 3 else if a = 34 then 5 else if a = 91 then 7 else if a = 123 then 8 else 0
theorem cls_num {a : UInt8} (h : (digU a || a == 45) = true) : cls a = 3 := by
  have h1 : a ≠ 110 := by rintro rfl; revert h; decide
  have h2 : ¬ (a = 116 ∨ a = 102) := by rintro (rfl | rfl) <;> revert h <;> decide
  unfold cls
  rw [if_neg h1, if_neg h2, if_pos h]
/-- The parts of a value that is right and no list. -/
theorem leaf_parts {d : Nat} {x : JV} (h7 : x.k ≠ 7) (h8 : x.k ≠ 8) (h : chkAt (d + 1) x = true) : x.ns = [] ∧ x.ps = [] ∧ leafB x.k (vbl x.s) = true := by
  have h' : (selfB x && x.ps.all (chkAt d)) = true := h
  rw [self_leaf h7 h8, Bool.and_eq_true, Bool.and_eq_true, Bool.and_eq_true] at h'
  exact ⟨List.isEmpty_iff.1 h'.1.1.1, List.isEmpty_iff.1 h'.1.1.2, h'.1.2⟩
theorem leaf_kind {k : Int} {l : List UInt8} (h : leafB k l = true) : (k = 1 ∧ l = []) ∨ (k = 2 ∧ (l = [116, 114, 117, 101] ∨ l = [102, 97, 108, 115, 101])) ∨ (k = 3 ∧ numOk l = true ∧ numWhole l = true) ∨ (k = 4 ∧ numOk l = true ∧ numWhole l = false) ∨ (k = 5 ∧ Lib.validD l = true) := by
  unfold leafB at h
  by_cases h1 : k = 1
  · rw [if_pos h1] at h; exact .inl ⟨h1, List.isEmpty_iff.1 h⟩
  rw [if_neg h1] at h
  by_cases h2 : k = 2
  · rw [if_pos h2] at h
    unfold boolB at h
    simp only [Bool.or_eq_true, beq_iff_eq] at h
    exact .inr (.inl ⟨h2, h⟩)
  rw [if_neg h2] at h
  by_cases h3 : k = 3
  · rw [if_pos h3, Bool.and_eq_true] at h; exact .inr (.inr (.inl ⟨h3, h⟩))
  rw [if_neg h3] at h
  by_cases h4 : k = 4
  · rw [if_pos h4, Bool.and_eq_true] at h; exact .inr (.inr (.inr (.inl ⟨h4, h.1, by simpa using h.2⟩)))
  rw [if_neg h4] at h
  by_cases h5 : k = 5
  · rw [if_pos h5] at h; exact .inr (.inr (.inr (.inr ⟨h5, h⟩)))
  rw [if_neg h5] at h
  cases h
theorem head_cls {d : Nat} {x : JV} (h : chkAt (d + 1) x = true) : ∃ a t, txt (d + 1) x = a :: t ∧ cls a = (if x.k = 4 then 3 else x.k) ∧ (x.k = 1 ∨ x.k = 2 ∨ x.k = 3 ∨ x.k = 4 ∨ x.k = 5 ∨ x.k = 7 ∨ x.k = 8) := by
  by_cases h7 : x.k = 7
  · exact ⟨91, _, by rw [txt_list h7]; rfl, by rw [h7]; decide, by omega⟩
  by_cases h8 : x.k = 8
  · exact ⟨123, _, by rw [txt_obj h8]; rfl, by rw [h8]; decide, by omega⟩
  obtain ⟨_, _, hl⟩ := leaf_parts h7 h8 h
  rcases leaf_kind hl with ⟨k, e⟩ | ⟨k, e⟩ | ⟨k, e, _⟩ | ⟨k, e, _⟩ | ⟨k, e⟩
  · exact ⟨110, _, by rw [txt_null k]; rfl, by rw [k]; decide, by omega⟩
  · rw [txt_leaf (by omega) (by omega) h7 h8, k]
    rcases e with e | e
    · exact ⟨_, _, e, by decide, by omega⟩
    · exact ⟨_, _, e, by decide, by omega⟩
  · rw [txt_leaf (by omega) (by omega) h7 h8, k]
    obtain ⟨a, t, e1, e2⟩ := num_head e
    exact ⟨a, t, e1, by rw [cls_num e2]; rfl, by omega⟩
  · rw [txt_leaf (by omega) (by omega) h7 h8, k]
    obtain ⟨a, t, e1, e2⟩ := num_head e
    exact ⟨a, t, e1, by rw [cls_num e2]; rfl, by omega⟩
  · rw [txt_str k, k]
    unfold quoteB
    rw [if_pos e]
    exact ⟨34, _, rfl, by decide, by omega⟩
theorem head_ok {d : Nat} {x : JV} (h : chkAt d x = true) : ∃ a t, txt d x = a :: t ∧ a ≠ 44 ∧ a ≠ 93 ∧ a ≠ 125 := by
  match d, h with
  | d + 1, h =>
    obtain ⟨a, t, e, hc, hk⟩ := head_cls h
    refine ⟨a, t, e, ?_, ?_, ?_⟩ <;> rintro rfl <;> (rw [show cls _ = 0 from by decide] at hc; split at hc <;> omega)

end Go.Proofs.YtbcenaljaoejkaaDoor

/-
  Unlike values have unlike texts.
-/
namespace Go.Proofs.YtbcenaljaoejkaaDoor
open Go.RowKit

theorem nmGo_valid : ∀ (l seen : List (List UInt8)), nmGo seen l = true → ∀ n ∈ l, Lib.validD n = true
  | [], _, _, _, h => by cases h
  | a :: t, seen, h, n, hn => by
    unfold nmGo at h
    simp only [Bool.and_eq_true] at h
    rcases List.mem_cons.1 hn with e | e
    · subst e; exact h.1.2
    · exact nmGo_valid t _ h.2 n e
theorem nm_valids {ns : List ByteArray} (h : nmOk ns = true) : ∀ n ∈ ns, Lib.validD (vbl n) = true := fun n hn => nmGo_valid _ _ h _ (List.mem_map.2 ⟨n, hn, rfl⟩)

theorem stop_pts (f : JV → List UInt8) (ob : Bool) (ns : List ByteArray) (ps : List JV) (c : UInt8) (hc : c = 93 ∨ c = 125) (r : List UInt8) : stopB (pts f ob false ns ps ++ c :: r) = true := by
  cases ps with
  | nil => rcases hc with rfl | rfl <;> rfl
  | cons p q => unfold pts; rfl

theorem pts_list (f : JV → List UInt8) (P : JV → Prop) (hf : ∀ x, P x → ∃ a t, f x = a :: t ∧ a ≠ 44 ∧ a ≠ 93 ∧ a ≠ 125) (ih : ∀ x y r r', P x → P y → stopB r = true → stopB r' = true → f x ++ r = f y ++ r' → x = y ∧ r = r') :
    ∀ (ps qs : List JV) (fst : Bool) (r r' : List UInt8), (∀ p ∈ ps, P p) → (∀ p ∈ qs, P p) → pts f false fst [] ps ++ 93 :: r = pts f false fst [] qs ++ 93 :: r' → ps = qs ∧ r = r'
  | [], [], _, r, r', _, _, e => ⟨rfl, by simpa [pts] using e⟩
  | [], q :: qs, fst, r, r', _, hq, e => by
    exfalso
    obtain ⟨a, t, ea, h1, h2, _⟩ := hf q (hq q (by simp))
    unfold pts at e
    rw [ea] at e
    cases fst <;> simp at e
    exact h2 e.1.symm
  | p :: ps, [], fst, r, r', hp, _, e => by
    exfalso
    obtain ⟨a, t, ea, h1, h2, _⟩ := hf p (hp p (by simp))
    unfold pts at e
    rw [ea] at e
    cases fst <;> simp at e
    exact h2 e.1
  | p :: ps, q :: qs, fst, r, r', hp, hq, e => by
    have e' : f p ++ (pts f false false [] ps ++ 93 :: r) = f q ++ (pts f false false [] qs ++ 93 :: r') := by
      unfold pts at e
      cases fst <;> simpa using e
    obtain ⟨e1, e2⟩ := ih p q _ _ (hp p (by simp)) (hq q (by simp)) (stop_pts f false [] ps 93 (.inl rfl) r) (stop_pts f false [] qs 93 (.inl rfl) r') e'
    obtain ⟨e3, e4⟩ := pts_list f P hf ih ps qs false r r' (fun x hx => hp x (by simp [hx])) (fun x hx => hq x (by simp [hx])) e2
    exact ⟨by rw [e1, e3], e4⟩

theorem quote_head {l : List UInt8} (h : Lib.validD l = true) : ∃ t, quoteB l = 34 :: t := by
  unfold quoteB
  rw [if_pos h]
  exact ⟨_, rfl⟩

theorem pts_obj (f : JV → List UInt8) (P : JV → Prop) (ih : ∀ x y r r', P x → P y → stopB r = true → stopB r' = true → f x ++ r = f y ++ r' → x = y ∧ r = r') :
    ∀ (ps qs : List JV) (ns ms : List ByteArray) (fst : Bool) (r r' : List UInt8), ns.length = ps.length → ms.length = qs.length → (∀ n ∈ ns, Lib.validD (vbl n) = true) → (∀ n ∈ ms, Lib.validD (vbl n) = true) → (∀ p ∈ ps, P p) → (∀ p ∈ qs, P p) →
      pts f true fst ns ps ++ 125 :: r = pts f true fst ms qs ++ 125 :: r' → ns = ms ∧ ps = qs ∧ r = r'
  | [], [], [], [], _, r, r', _, _, _, _, _, _, e => ⟨rfl, rfl, by simpa [pts] using e⟩
  | [], q :: qs, [], m :: ms, fst, r, r', _, _, _, hm, _, _, e => by
    exfalso
    obtain ⟨t, et⟩ := quote_head (hm m (by simp))
    unfold pts at e
    simp only [List.headD_cons] at e
    rw [et] at e
    cases fst <;> simp at e
  | p :: ps, [], n :: ns, [], fst, r, r', _, _, hn, _, _, _, e => by
    exfalso
    obtain ⟨t, et⟩ := quote_head (hn n (by simp))
    unfold pts at e
    simp only [List.headD_cons] at e
    rw [et] at e
    cases fst <;> simp at e
  | p :: ps, q :: qs, n :: ns, m :: ms, fst, r, r', hl, hl', hn, hm, hp, hq, e => by
    have e' : quoteB (vbl n) ++ (58 :: (f p ++ (pts f true false ns ps ++ 125 :: r))) = quoteB (vbl m) ++ (58 :: (f q ++ (pts f true false ms qs ++ 125 :: r'))) := by
      unfold pts at e
      cases fst <;> simpa using e
    obtain ⟨e1, e2⟩ := quoteB_cut (hn n (by simp)) (hm m (by simp)) e'
    injection e2 with _ e2
    obtain ⟨e3, e4⟩ := ih p q _ _ (hp p (by simp)) (hq q (by simp)) (stop_pts f true ns ps 125 (.inr rfl) r) (stop_pts f true ms qs 125 (.inr rfl) r') e2
    obtain ⟨e5, e6, e7⟩ := pts_obj f P ih ps qs ns ms false r r' (by simpa using hl) (by simpa using hl') (fun x hx => hn x (by simp [hx])) (fun x hx => hm x (by simp [hx])) (fun x hx => hp x (by simp [hx])) (fun x hx => hq x (by simp [hx])) e4
    exact ⟨by rw [vbl_inj e1, e5], by rw [e3, e6], e7⟩
  | [], _, _ :: _, _, _, _, _, hl, _, _, _, _, _, _ => by cases hl
  | _ :: _, _, [], _, _, _, _, hl, _, _, _, _, _, _ => by cases hl
  | _, [], _, _ :: _, _, _, _, _, hl, _, _, _, _, _ => by cases hl
  | _, _ :: _, _, [], _, _, _, _, hl, _, _, _, _, _ => by cases hl

theorem jv_eq {x y : JV} (h1 : x.k = y.k) (h2 : x.s = y.s) (h3 : x.ns = y.ns) (h4 : x.ps = y.ps) : x = y := by
  cases x
  cases y
  simp only [JV.k, JV.s, JV.ns, JV.ps] at h1 h2 h3 h4
  rw [h1, h2, h3, h4]

theorem txt_cut : ∀ (d : Nat) (x y : JV) (r r' : List UInt8), chkAt d x = true → chkAt d y = true → stopB r = true → stopB r' = true → txt d x ++ r = txt d y ++ r' → x = y ∧ r = r'
  | 0, _, _, _, _, h, _, _, _, _ => by cases h
  | d + 1, x, y, r, r', hx, hy, hr, hr', e => by
    obtain ⟨a, t, ea, ca, ka⟩ := head_cls hx
    obtain ⟨b, u, eb, cb, kb⟩ := head_cls hy
    have hab : a = b := by
      rw [ea, eb] at e
      simp only [List.cons_append, List.cons.injEq] at e
      exact e.1
    subst hab
    have hk : (if x.k = 4 then 3 else x.k) = (if y.k = 4 then 3 else y.k) := ca.symm.trans cb
    clear ea eb ca cb
    have hxs : (selfB x && x.ps.all (chkAt d)) = true := hx
    have hys : (selfB y && y.ps.all (chkAt d)) = true := hy
    rw [Bool.and_eq_true] at hxs hys
    have hxp : ∀ p ∈ x.ps, chkAt d p = true := List.all_eq_true.1 hxs.2
    have hyp : ∀ p ∈ y.ps, chkAt d p = true := List.all_eq_true.1 hys.2
    by_cases h7 : x.k = 7
    · have k7 : y.k = 7 := by rw [h7, if_neg (by decide)] at hk; split at hk <;> omega
      rw [txt_list h7, txt_list k7] at e
      have s1 := hxs.1
      have s2 := hys.1
      rw [self_list h7, Bool.and_eq_true] at s1
      rw [self_list k7, Bool.and_eq_true] at s2
      have n1 := List.isEmpty_iff.1 s1.2
      have n2 := List.isEmpty_iff.1 s2.2
      rw [n1, n2] at e
      obtain ⟨e1, e2⟩ := pts_list (txt d) (fun x => chkAt d x = true) (fun x h => head_ok h) (txt_cut d) x.ps y.ps true r r' hxp hyp (by simpa using e)
      exact ⟨jv_eq (by rw [h7, k7]) (vbl_inj (by rw [List.isEmpty_iff.1 s1.1, List.isEmpty_iff.1 s2.1])) (by rw [n1, n2]) e1, e2⟩
    by_cases h8 : x.k = 8
    · have k8 : y.k = 8 := by rw [h8, if_neg (by decide)] at hk; split at hk <;> omega
      rw [txt_obj h8, txt_obj k8] at e
      have s1 := hxs.1
      have s2 := hys.1
      rw [self_obj h8, Bool.and_eq_true, Bool.and_eq_true] at s1
      rw [self_obj k8, Bool.and_eq_true, Bool.and_eq_true] at s2
      obtain ⟨e0, e1, e2⟩ := pts_obj (txt d) (fun x => chkAt d x = true) (txt_cut d) x.ps y.ps x.ns y.ns true r r' (by simpa using s1.1.2) (by simpa using s2.1.2) (nm_valids s1.2) (nm_valids s2.2) hxp hyp (by simpa using e)
      exact ⟨jv_eq (by rw [h8, k8]) (vbl_inj (by rw [List.isEmpty_iff.1 s1.1.1, List.isEmpty_iff.1 s2.1.1])) e0 e1, e2⟩
    have h7' : y.k ≠ 7 := fun h => by
      have hh : (if y.k = 4 then (3 : Int) else y.k) = 7 := by rw [h]; rfl
      rw [hh] at hk
      split at hk <;> omega
    have h8' : y.k ≠ 8 := fun h => by
      have hh : (if y.k = 4 then (3 : Int) else y.k) = 8 := by rw [h]; rfl
      rw [hh] at hk
      split at hk <;> omega
    obtain ⟨x1, x2, x3⟩ := leaf_parts h7 h8 hx
    obtain ⟨y1, y2, y3⟩ := leaf_parts h7' h8' hy
    have fin : x.k = y.k → x.s = y.s → x = y := fun h1 h2 => jv_eq h1 h2 (by rw [x1, y1]) (by rw [x2, y2])
    have numb : numOk (vbl x.s) = true → numOk (vbl y.s) = true → x.k ≠ 1 → x.k ≠ 5 → y.k ≠ 1 → y.k ≠ 5 → vbl x.s = vbl y.s ∧ r = r' := fun n1 n2 a1 a5 b1 b5 => by
      rw [txt_leaf a1 a5 h7 h8, txt_leaf b1 b5 h7' h8'] at e
      exact run_cut _ _ r r' (num_all n1) (num_all n2) hr hr' e
    rcases leaf_kind x3 with ⟨k, o⟩ | ⟨k, o⟩ | ⟨k, o, ow⟩ | ⟨k, o, ow⟩ | ⟨k, o⟩ <;> rcases leaf_kind y3 with ⟨k', o'⟩ | ⟨k', o'⟩ | ⟨k', o', ow'⟩ | ⟨k', o', ow'⟩ | ⟨k', o'⟩ <;> rw [k, k'] at hk <;> first
      | (exfalso; revert hk; decide)
      | skip
    · rw [txt_null k, txt_null k'] at e
      exact ⟨fin (by rw [k, k']) (vbl_inj (by rw [o, o'])), by simpa [nullL] using e⟩
    · rw [txt_leaf (by omega) (by omega) h7 h8, txt_leaf (by omega) (by omega) h7' h8'] at e
      rcases o with o | o <;> rcases o' with o' | o' <;> rw [o, o'] at e <;> simp at e
      · exact ⟨fin (by rw [k, k']) (vbl_inj (by rw [o, o'])), e⟩
      · exact ⟨fin (by rw [k, k']) (vbl_inj (by rw [o, o'])), e⟩
    · obtain ⟨e1, e2⟩ := numb o o' (by omega) (by omega) (by omega) (by omega)
      exact ⟨fin (by rw [k, k']) (vbl_inj e1), e2⟩
    · obtain ⟨e1, _⟩ := numb o o' (by omega) (by omega) (by omega) (by omega)
      rw [e1, ow'] at ow
      cases ow
    · obtain ⟨e1, _⟩ := numb o o' (by omega) (by omega) (by omega) (by omega)
      rw [e1, ow'] at ow
      cases ow
    · obtain ⟨e1, e2⟩ := numb o o' (by omega) (by omega) (by omega) (by omega)
      exact ⟨fin (by rw [k, k']) (vbl_inj e1), e2⟩
    · rw [txt_str k, txt_str k'] at e
      obtain ⟨e1, e2⟩ := quoteB_cut o o' e
      exact ⟨fin (by rw [k, k']) (vbl_inj e1), e2⟩

theorem txt_inj {x y : JV} (hx : chkAt 12 x = true) (hy : chkAt 12 y = true) (e : txt 12 x = txt 12 y) : x = y :=
  (txt_cut 12 x y [] [] hx hy rfl rfl (by rw [e])).1

end Go.Proofs.YtbcenaljaoejkaaDoor

/-
  JreadBack: every value is read back; doubled, or with more behind it, it is none.
-/
namespace Go.Proofs.YtbcenaljaoejkaaDoor
open Go.RowKit

theorem numC_ns {b : UInt8} (h : numC b = true) : isNS b := by
  unfold numC at h
  simp only [Bool.or_eq_true, beq_iff_eq] at h
  rcases h with ((((h | rfl) | rfl) | rfl) | rfl) | rfl
  · exact dig_ns h
  all_goals (unfold isNS; decide)
theorem num_ns {l : List UInt8} (h : numOk l = true) : ∀ c ∈ l, isNS c := fun c hc => numC_ns (List.all_eq_true.1 (num_all h) c hc)

theorem bl_front (n : Nat) (x : JV) (bl : List UInt8) (h : chkAt n x = true) : ∃ b z, btx bl n x = b :: z ∧ blankU b = false ∧ b ≠ 93 ∧ b ≠ 125 := by
  match n, h with
  | n + 1, h =>
    by_cases h7 : x.k = 7
    · exact ⟨91, _, by unfold btx; rw [if_neg (by omega), if_neg (by omega), if_pos h7], by decide, by decide, by decide⟩
    · by_cases h8 : x.k = 8
      · exact ⟨123, _, by unfold btx; rw [if_neg (by omega), if_neg (by omega), if_neg (by omega), if_pos h8], by decide, by decide, by decide⟩
      · obtain ⟨_, _, hlf⟩ := leaf_parts h7 h8 h
        rcases leaf_kind hlf with ⟨hk, _⟩ | ⟨hk, hb⟩ | ⟨hk, hn⟩ | ⟨hk, hn⟩ | ⟨hk, hv⟩
        · exact ⟨110, [117, 108, 108], by unfold btx; rw [if_pos hk]; rfl, by decide, by decide, by decide⟩
        · have e : btx bl (n + 1) x = vbl x.s := by unfold btx; rw [if_neg (by omega), if_neg (by omega), if_neg (by omega), if_neg (by omega)]
          rcases hb with hb | hb
          · exact ⟨116, [114, 117, 101], by rw [e, hb], by decide, by decide, by decide⟩
          · exact ⟨102, [97, 108, 115, 101], by rw [e, hb], by decide, by decide, by decide⟩
        · have e : btx bl (n + 1) x = vbl x.s := by unfold btx; rw [if_neg (by omega), if_neg (by omega), if_neg (by omega), if_neg (by omega)]
          obtain ⟨a, t, ht, _⟩ := num_head hn.1
          have hns := ns_ne (num_ns hn.1 a (by rw [ht]; simp))
          refine ⟨a, t, by rw [e, ht], hns.1, hns.2.2.2.2.2.2.2, ?_⟩
          have := num_ns hn.1 a (by rw [ht]; simp)
          rintro rfl
          unfold isNS at this
          exact absurd this (by decide)
        · have e : btx bl (n + 1) x = vbl x.s := by unfold btx; rw [if_neg (by omega), if_neg (by omega), if_neg (by omega), if_neg (by omega)]
          obtain ⟨a, t, ht, _⟩ := num_head hn.1
          have hns := ns_ne (num_ns hn.1 a (by rw [ht]; simp))
          refine ⟨a, t, by rw [e, ht], hns.1, hns.2.2.2.2.2.2.2, ?_⟩
          have := num_ns hn.1 a (by rw [ht]; simp)
          rintro rfl
          unfold isNS at this
          exact absurd this (by decide)
        · obtain ⟨t, ht⟩ := quote_head hv
          exact ⟨34, t, by unfold btx; rw [if_neg (by omega), if_pos hk, ht], by decide, by decide, by decide⟩

theorem JV.eta (x : JV) : x = .mk x.k x.s x.ns x.ps := by cases x; rfl

end Go.Proofs.YtbcenaljaoejkaaDoor

/-
  JreadBack: every value is read back.
-/
namespace Go.Proofs.YtbcenaljaoejkaaDoor
open Go.RowKit

theorem bpts_mem (bl : List UInt8) (f : JV → List UInt8) (ob : Bool) : ∀ (ps : List JV) (fst : Bool) (ns : List ByteArray), ∀ q ∈ ps, (f q).length ≤ (bpts bl f ob fst ns ps).length
  | [], _, _, q, h => by cases h
  | p :: ps, fst, ns, q, h => by
    unfold bpts
    simp only [List.length_append]
    rcases List.mem_cons.1 h with rfl | h
    · omega
    · have := bpts_mem bl f ob ps false ns.tail q h
      omega
theorem bpts_len (bl : List UInt8) (f : JV → List UInt8) (ob : Bool) : ∀ (ps : List JV) (fst : Bool) (ns : List ByteArray), (∀ q ∈ ps, 1 ≤ (f q).length) → ps.length ≤ (bpts bl f ob fst ns ps).length
  | [], _, _, _ => Nat.zero_le _
  | p :: ps, fst, ns, h => by
    unfold bpts
    simp only [List.length_append, List.length_cons]
    have h1 := h p (by simp)
    have h2 := bpts_len bl f ob ps false ns.tail fun q hq => h q (by simp [hq])
    omega

theorem word_read {w l : List UInt8} (r : List UInt8) (h : l = w) : Lib.hasPrefix (l ++ r) w = true ∧ (l ++ r).drop w.length = r := by
  subst h
  exact ⟨List.isPrefixOf_iff_prefix.2 (List.prefix_append _ _), List.drop_left⟩

theorem deep_no {dep : Nat} (h : dep ≤ 12) : (false || deepB dep) = false := by unfold deepB; simp; omega

theorem back_leaf {bl : List UInt8} {n f dep : Nat} {x : JV} (hc : chkAt (n + 1) x = true) (hdd : dep ≤ 12) (h7 : x.k ≠ 7) (h8 : x.k ≠ 8) : Back bl (n + 1) (pv (f + 1) dep) x := by
  intro t r hr
  obtain ⟨hns, hps, hlf⟩ := leaf_parts h7 h8 hc
  have hx : x = .mk x.k x.s [] [] := by rw [← hns, ← hps]; exact x.eta
  rcases leaf_kind hlf with ⟨hk, hs⟩ | ⟨hk, hb⟩ | ⟨hk, hn⟩ | ⟨hk, hn⟩ | ⟨hk, hv⟩
  · have hs' : x.s = e0 := vbl_inj (b := e0) hs
    have hx1 : x = .mk 1 e0 [] [] := by have h := hx; rw [hk, hs'] at h; exact h
    have e : btx bl (n + 1) x = wNull := by unfold btx; rw [if_pos hk]; rfl
    obtain ⟨w1, w2⟩ := word_read (w := wNull) r rfl
    refine ⟨r, ?_, rfl⟩
    rw [e, pv, show sk (wNull ++ r) = wNull ++ r from rfl, show hd (wNull ++ r) = 110 from rfl, if_neg (by decide), if_neg (by decide), if_neg (by decide), if_pos rfl, wordP, w1, if_pos rfl, w2, deep_no hdd, hx1]
  · have e : btx bl (n + 1) x = vbl x.s := by unfold btx; rw [if_neg (by omega), if_neg (by omega), if_neg (by omega), if_neg (by omega)]
    rcases hb with hb | hb
    · have hs' : x.s = ofL wTrue := vbl_inj (b := ofL wTrue) hb
      have hx1 : x = .mk 2 (ofL wTrue) [] [] := by have h := hx; rw [hk, hs'] at h; exact h
      obtain ⟨w1, w2⟩ := word_read (w := wTrue) r rfl
      refine ⟨r, ?_, rfl⟩
      rw [e, show vbl x.s = wTrue from hb, pv, show sk (wTrue ++ r) = wTrue ++ r from rfl, show hd (wTrue ++ r) = 116 from rfl, if_neg (by decide), if_neg (by decide), if_neg (by decide), if_neg (by decide), if_pos rfl, wordP, w1, if_pos rfl, w2, deep_no hdd, hx1]
    · have hs' : x.s = ofL wFalse := vbl_inj (b := ofL wFalse) hb
      have hx1 : x = .mk 2 (ofL wFalse) [] [] := by have h := hx; rw [hk, hs'] at h; exact h
      obtain ⟨w1, w2⟩ := word_read (w := wFalse) r rfl
      refine ⟨r, ?_, rfl⟩
      rw [e, show vbl x.s = wFalse from hb, pv, show sk (wFalse ++ r) = wFalse ++ r from rfl, show hd (wFalse ++ r) = 102 from rfl, if_neg (by decide), if_neg (by decide), if_neg (by decide), if_neg (by decide), if_neg (by decide), if_pos rfl, wordP, w1, if_pos rfl, w2, deep_no hdd, hx1]
  · have e : btx bl (n + 1) x = vbl x.s := by unfold btx; rw [if_neg (by omega), if_neg (by omega), if_neg (by omega), if_neg (by omega)]
    obtain ⟨a, z, hz, _⟩ := num_head hn.1
    refine ⟨r, ?_, rfl⟩
    have hp := pv_num f dep false t (b := a) (s := z) (r := r) (by rw [← hz]; exact num_ns hn.1) hr
    rw [← hz, hn.1, if_pos rfl, hn.2, if_pos rfl, deep_no hdd, show ofL (vbl x.s) = x.s from of_list _] at hp
    rw [e, hz, List.cons_append, hp]
    exact congrArg (fun v => some (v, r, false, t)) (by have h := hx; rw [hk] at h; exact h.symm)
  · have e : btx bl (n + 1) x = vbl x.s := by unfold btx; rw [if_neg (by omega), if_neg (by omega), if_neg (by omega), if_neg (by omega)]
    obtain ⟨a, z, hz, _⟩ := num_head hn.1
    refine ⟨r, ?_, rfl⟩
    have hp := pv_num f dep false t (b := a) (s := z) (r := r) (by rw [← hz]; exact num_ns hn.1) hr
    rw [← hz, hn.1, if_pos rfl, hn.2, if_neg (by decide), deep_no hdd, show ofL (vbl x.s) = x.s from of_list _] at hp
    rw [e, hz, List.cons_append, hp]
    exact congrArg (fun v => some (v, r, false, t)) (by have h := hx; rw [hk] at h; exact h.symm)
  · have e : btx bl (n + 1) x = quoteB (vbl x.s) := by unfold btx; rw [if_neg (by omega), if_pos hk]
    obtain ⟨q1, q2⟩ := quote_hd (vbl x.s) r hv
    refine ⟨r, ?_, rfl⟩
    rw [e, pv, q1, q2, if_neg (by decide), if_neg (by decide), if_pos rfl, qt_quote _ _ hv]
    show some (JV.mk 5 (ofL (vbl x.s)) [] [], r, false || deepB dep, t) = _
    rw [deep_no hdd, show ofL (vbl x.s) = x.s from of_list _]
    exact congrArg (fun v => some (v, r, false, t)) (by have h := hx; rw [hk] at h; exact h.symm)

end Go.Proofs.YtbcenaljaoejkaaDoor

/-
  JreadBack: every value is read back, with blanks behind the signs or without.
-/
namespace Go.Proofs.YtbcenaljaoejkaaDoor
open Go.RowKit

theorem back_all {bl : List UInt8} (hbl : isBl bl) : ∀ (n : Nat) (x : JV) (f dep : Nat), chkAt n x = true → (btx bl n x).length < f → dep + n ≤ 13 → Back bl n (pv f dep) x
  | 0, _, _, _, h, _, _ => by cases h
  | n + 1, x, f, dep, hc, hf, hdn => by
    obtain ⟨g, rfl⟩ : ∃ g, f = g + 1 := ⟨f - 1, by omega⟩
    by_cases h7 : x.k = 7
    · intro t r hr
      have hc0 := hc
      unfold chkAt at hc
      rw [Bool.and_eq_true, self_list h7, Bool.and_eq_true] at hc
      obtain ⟨⟨hs, hns⟩, hps⟩ := hc
      have hs' : x.s = e0 := vbl_inj (b := e0) (List.isEmpty_iff.1 hs)
      have hns' : x.ns = [] := List.isEmpty_iff.1 hns
      have hx : x = .mk 7 e0 [] x.ps := by have h := x.eta; rw [h7, hs', hns'] at h; exact h
      have hb : btx bl (n + 1) x = 91 :: (bl ++ (bpts bl (btx bl n) false true x.ns x.ps ++ 93 :: bl)) := by unfold btx; rw [if_neg (by omega), if_neg (by omega), if_pos h7]
      rw [hb] at hf ⊢
      have e : (91 :: (bl ++ (bpts bl (btx bl n) false true x.ns x.ps ++ 93 :: bl))) ++ r = 91 :: (bl ++ (bpts bl (btx bl n) false true x.ns x.ps ++ 93 :: (bl ++ r))) := by simp
      have hlen : (bpts bl (btx bl n) false true x.ns x.ps).length + 1 ≤ g := by
        simp only [List.length_cons, List.length_append] at hf
        omega
      have hq : ∀ q ∈ x.ps, Back bl n (pv g (dep + 1)) q := fun q hq => back_all hbl n q g (dep + 1) (List.all_eq_true.1 hps q hq) (by have := bpts_mem bl (btx bl n) false x.ps true x.ns q hq; omega) (by omega)
      have hpl : x.ps.length ≤ (bpts bl (btx bl n) false true x.ns x.ps).length := bpts_len bl (btx bl n) false x.ps true x.ns fun q hq => by
        obtain ⟨b, z, hz, _⟩ := bl_front n q bl (List.all_eq_true.1 hps q hq)
        rw [hz]; simp
      refine ⟨bl ++ r, ?_, sk_bl hbl r⟩
      rw [e, pv, show ∀ z, sk (91 :: z) = 91 :: z from fun _ => rfl, show ∀ z, hd (91 :: z) = 91 from fun _ => rfl, if_pos rfl, show ∀ z : List UInt8, List.drop 1 (91 :: z) = z from fun _ => rfl, deep_no (by omega), listP, sk_bl hbl]
      cases hp : x.ps with
      | nil =>
        show (if hd (sk (93 :: (bl ++ r))) = 93 then _ else _) = _
        rw [show sk (93 :: (bl ++ r)) = 93 :: (bl ++ r) from rfl, if_pos (by rfl)]
        rw [hp] at hx
        exact congrArg (fun v => some (v, bl ++ r, false, t)) hx.symm
      | cons p ps =>
        rw [hp] at hq hps hpl hx hlen
        have e2 : bpts bl (btx bl n) false true x.ns (p :: ps) ++ 93 :: (bl ++ r) = btx bl n p ++ (bpts bl (btx bl n) false false x.ns.tail ps ++ 93 :: (bl ++ r)) := by
          rw [bpts]; simp
        obtain ⟨b, z, hz, hb1, hb2, _⟩ := bl_front n p bl (List.all_eq_true.1 hps p (by simp))
        have hne : hd (sk (bpts bl (btx bl n) false true x.ns (p :: ps) ++ 93 :: (bl ++ r))) ≠ 93 := by
          rw [e2, hz, List.cons_append, sk_cons, hb1]
          exact hb2
        rw [if_neg hne, listGo_same (sk_bl hbl _), e2, back_list hbl ps p [] x.ns.tail g t r hq (by simp only [List.length_cons] at hpl; omega)]
        exact congrArg (fun v => some (v, bl ++ r, false, t)) hx.symm
    · by_cases h8 : x.k = 8
      · intro t r hr
        unfold chkAt at hc
        rw [Bool.and_eq_true, self_obj h8, Bool.and_eq_true, Bool.and_eq_true] at hc
        obtain ⟨⟨⟨hs, hnl⟩, hnm⟩, hps⟩ := hc
        have hs' : x.s = e0 := vbl_inj (b := e0) (List.isEmpty_iff.1 hs)
        have hnl' : x.ns.length = x.ps.length := of_decide_eq_true hnl
        have hx : x = .mk 8 e0 x.ns x.ps := by have h := x.eta; rw [h8, hs'] at h; exact h
        have hb : btx bl (n + 1) x = 123 :: (bl ++ (bpts bl (btx bl n) true true x.ns x.ps ++ 125 :: bl)) := by unfold btx; rw [if_neg (by omega), if_neg (by omega), if_neg (by omega), if_pos h8]
        rw [hb] at hf ⊢
        have e : (123 :: (bl ++ (bpts bl (btx bl n) true true x.ns x.ps ++ 125 :: bl))) ++ r = 123 :: (bl ++ (bpts bl (btx bl n) true true x.ns x.ps ++ 125 :: (bl ++ r))) := by simp
        have hlen : (bpts bl (btx bl n) true true x.ns x.ps).length + 1 ≤ g := by
          simp only [List.length_cons, List.length_append] at hf
          omega
        have hq : ∀ q ∈ x.ps, Back bl n (pv g (dep + 1)) q := fun q hq => back_all hbl n q g (dep + 1) (List.all_eq_true.1 hps q hq) (by have := bpts_mem bl (btx bl n) true x.ps true x.ns q hq; omega) (by omega)
        have hpl : x.ps.length ≤ (bpts bl (btx bl n) true true x.ns x.ps).length := bpts_len bl (btx bl n) true x.ps true x.ns fun q hq => by
          obtain ⟨b, z, hz, _⟩ := bl_front n q bl (List.all_eq_true.1 hps q hq)
          rw [hz]; simp
        refine ⟨bl ++ r, ?_, sk_bl hbl r⟩
        rw [e, pv, show ∀ z, sk (123 :: z) = 123 :: z from fun _ => rfl, show ∀ z, hd (123 :: z) = 123 from fun _ => rfl, if_neg (by decide), if_pos rfl, show ∀ z : List UInt8, List.drop 1 (123 :: z) = z from fun _ => rfl, deep_no (by omega), objP, sk_bl hbl]
        cases hp : x.ps with
        | nil =>
          have hn0 : x.ns = [] := List.eq_nil_of_length_eq_zero (by rw [hnl', hp]; rfl)
          show (if hd (sk (125 :: (bl ++ r))) = 125 then _ else _) = _
          rw [show sk (125 :: (bl ++ r)) = 125 :: (bl ++ r) from rfl, if_pos (by rfl)]
          rw [hp, hn0] at hx
          exact congrArg (fun v => some (v, bl ++ r, false, t)) hx.symm
        | cons p ps =>
          obtain ⟨nm, ns, hn1⟩ : ∃ a b, x.ns = a :: b := by
            cases hn2 : x.ns with
            | nil => rw [hn2, hp] at hnl'; cases hnl'
            | cons a b => exact ⟨a, b, rfl⟩
          rw [hp] at hq hps hpl hx hlen hnl'
          rw [hn1] at hx hlen hnl' hnm hpl
          have hv : Lib.validD (vbl nm) = true := (nmGo_cons (show nmGo [] (vbl nm :: ns.map vbl) = true from hnm)).2.1
          have e2 : bpts bl (btx bl n) true true (nm :: ns) (p :: ps) ++ 125 :: (bl ++ r) = quoteB (vbl nm) ++ 58 :: (bl ++ (btx bl n p ++ (bpts bl (btx bl n) true false ns ps ++ 125 :: (bl ++ r)))) := by
            rw [bpts]; simp
          obtain ⟨q1, q2⟩ := quote_hd (vbl nm) (58 :: (bl ++ (btx bl n p ++ (bpts bl (btx bl n) true false ns ps ++ 125 :: (bl ++ r))))) hv
          rw [hn1, if_neg (by rw [e2, q1, q2]; decide), objGo_same (sk_bl hbl _), e2, back_obj hbl ps p nm ns [] [] g t r hq (by simp only [List.length_cons] at hpl; omega) (by simpa using hnl') hnm]
          exact congrArg (fun v => some (v, bl ++ r, false, t)) hx.symm
      · exact back_leaf hc (by omega) h7 h8

/-- Written and read: the value; with blanks behind the signs and around it, too. -/
theorem read_back {bl pre : List UInt8} (hbl : isBl bl) (hpre : isBl pre) (x : JV) (hc : chkAt 12 x = true) (hlen : (pre ++ (btx bl 12 x ++ bl)).length ≤ 4000) : readP (pre ++ (btx bl 12 x ++ bl)) = (some x, 0) := by
  obtain ⟨r', h1, h2⟩ := back_all hbl 12 x ((pre ++ (btx bl 12 x ++ bl)).length + 1) 1 hc (by simp only [List.length_append]; omega) (by omega) false bl (fun b hb => by
    have : b ∈ bl := List.mem_of_mem_head? hb
    intro hn
    have := (ns_ne hn).1
    rw [hbl b (by assumption)] at this
    cases this)
  unfold readP
  rw [if_neg (by omega), pv_same (sk_bl hpre _), h1]
  have h3 : sk bl = [] := by have := sk_bl hbl []; rw [List.append_nil] at this; exact this
  show (if 0 < (sk r').length then _ else _) = _
  rw [h2, h3]
  rfl

end Go.Proofs.YtbcenaljaoejkaaDoor

/-
  JreadBack: more behind it turns nothing of what was read; so cut it is none, and doubled it is none.
-/
namespace Go.Proofs.YtbcenaljaoejkaaDoor
open Go.RowKit

theorem sk_more {l : List UInt8} (h : sk l ≠ []) (z : List UInt8) : sk (l ++ z) = sk l ++ z := by
  induction l with
  | nil => exact absurd rfl h
  | cons b l ih =>
    rw [List.cons_append, sk_cons, sk_cons]
    rw [sk_cons] at h
    split
    · rename_i hb
      rw [if_pos hb] at h
      exact ih h
    · rfl
theorem hd_more {l : List UInt8} (h : l ≠ []) (z : List UInt8) : hd (l ++ z) = hd l := by
  cases l with
  | nil => exact absurd rfl h
  | cons => rfl
theorem drop_more {l : List UInt8} {k : Nat} (h : k ≤ l.length) (z : List UInt8) : (l ++ z).drop k = l.drop k ++ z := List.drop_append_of_le_length h
theorem ne_of_hd {l : List UInt8} {c : UInt8} (h : hd l = c) (hc : c ≠ 0) : l ≠ [] := by
  rintro rfl
  exact hc h.symm

theorem qLen_more : ∀ (l z : List UInt8), qLen l < l.length → qLen (l ++ z) = qLen l
  | [], _, h => absurd h (by simp)
  | [b], z, h => by
    rw [qLen_cons] at h
    split at h
    · rename_i hb
      rw [List.cons_append, qLen_cons, if_pos hb, qLen_cons, if_pos hb]
    · split at h
      · simp at h
      · simp at h
  | b :: c :: l, z, h => by
    rw [qLen_cons] at h
    rw [List.cons_append, qLen_cons, qLen_cons]
    split
    · rfl
    · rename_i h1
      rw [if_neg h1] at h
      split
      · rename_i h2
        rw [if_pos h2] at h
        have := qLen_more l z (by simp at h ⊢; omega)
        show 2 + qLen (l ++ z) = 2 + qLen l
        rw [this]
      · rename_i h2
        rw [if_neg h2] at h
        have := qLen_more (c :: l) z (by simp at h ⊢; omega)
        rw [this]

theorem qt_more {l t r : List UInt8} (h : qt l = some (t, r)) (z : List UInt8) : qt (l ++ z) = some (t, r ++ z) := by
  unfold qt at h ⊢
  split at h
  · rename_i hl
    have hne : 1 ≤ l.length := by omega
    have e1 : (l ++ z).drop 1 = l.drop 1 ++ z := drop_more hne z
    have e2 : qLen (l.drop 1 ++ z) = qLen (l.drop 1) := qLen_more _ _ (by rw [List.length_drop]; omega)
    rw [e1, e2, if_pos (by rw [List.length_append]; omega), List.take_append_of_le_length (by omega), drop_more (by omega)]
    simp only [Option.map_eq_some_iff] at h ⊢
    obtain ⟨t', h1, h2⟩ := h
    injection h2 with h2 h3
    exact ⟨t', h1, by rw [h2, h3]⟩
  · cases h

/-- What is read of a text is read of it with more behind, where something stood behind already, or it is a list or an object. -/
def More (V : Rdg) : Prop := ∀ d t l x r d' t' z, V d t l = some (x, r, d', t') → (r ≠ [] ∨ hd (sk l) = 91 ∨ hd (sk l) = 123) → V d t (l ++ z) = some (x, r ++ z, d', t')

theorem hd_sk_ne {r : List UInt8} {c : UInt8} (h : hd (sk r) = c) (hc : c ≠ 0) : sk r ≠ [] ∧ r ≠ [] := by
  refine ⟨ne_of_hd h hc, ?_⟩
  rintro rfl
  exact hc h.symm

theorem listGo_more {V : Rdg} (hV : More V) : ∀ (n : Nat) (l : List UInt8) (xs : List JV) (d t : Bool) (x : JV) (r : List UInt8) (d' t' : Bool) (z : List UInt8), listGo V n l xs d t = some (x, r, d', t') → listGo V n (l ++ z) xs d t = some (x, r ++ z, d', t')
  | 0, _, _, _, _, _, _, _, _, _, h => by cases h
  | n + 1, l, xs, d, t, x, r, d', t', z, h => by
    unfold listGo at h ⊢
    cases hv : V d t l with
    | none => rw [hv] at h; cases h
    | some q =>
      obtain ⟨y, r1, d1, t1⟩ := q
      rw [hv] at h
      simp only at h
      by_cases h93 : hd (sk r1) = 93
      · rw [if_pos h93] at h
        obtain ⟨n1, n2⟩ := hd_sk_ne h93 (by decide)
        have hl1 : 1 ≤ (sk r1).length := List.length_pos_iff.2 n1
        rw [hV d t l y r1 d1 t1 z hv (.inl n2)]
        simp only
        rw [sk_more n1, if_pos (by rw [hd_more n1]; exact h93), drop_more hl1]
        injection h with h
        injection h with h1 h
        injection h with h2 h
        rw [h1, h2, h]
      · rw [if_neg h93] at h
        by_cases h44 : hd (sk r1) = 44
        · rw [if_pos h44] at h
          obtain ⟨n1, n2⟩ := hd_sk_ne h44 (by decide)
          have hl1 : 1 ≤ (sk r1).length := List.length_pos_iff.2 n1
          rw [hV d t l y r1 d1 t1 z hv (.inl n2)]
          simp only
          rw [sk_more n1, if_neg (by rw [hd_more n1]; exact h93), if_pos (by rw [hd_more n1]; exact h44), drop_more hl1]
          exact listGo_more hV n _ _ _ _ _ _ _ _ z h
        · rw [if_neg h44] at h; cases h

theorem objGo_more {V : Rdg} (hV : More V) : ∀ (n : Nat) (l : List UInt8) (ns : List ByteArray) (xs : List JV) (d t : Bool) (x : JV) (r : List UInt8) (d' t' : Bool) (z : List UInt8), objGo V n l ns xs d t = some (x, r, d', t') → objGo V n (l ++ z) ns xs d t = some (x, r ++ z, d', t')
  | 0, _, _, _, _, _, _, _, _, _, _, h => by cases h
  | n + 1, l, ns, xs, d, t, x, r, d', t', z, h => by
    unfold objGo at h ⊢
    by_cases h34 : hd (sk l) = 34
    · rw [if_pos h34] at h
      obtain ⟨n0, _⟩ := hd_sk_ne h34 (by decide)
      cases hq : qt (sk l) with
      | none => rw [hq] at h; cases h
      | some q =>
        obtain ⟨nm, r1⟩ := q
        rw [hq] at h
        simp only at h
        rw [sk_more n0, if_pos (by rw [hd_more n0]; exact h34), qt_more hq z]
        simp only
        by_cases h58 : hd (sk r1) = 58
        · rw [if_pos h58] at h
          obtain ⟨n1, _⟩ := hd_sk_ne h58 (by decide)
          have hl1 : 1 ≤ (sk r1).length := List.length_pos_iff.2 n1
          rw [sk_more n1, if_pos (by rw [hd_more n1]; exact h58), drop_more hl1]
          cases hv : V d (t || (ns.map vbl).contains nm) ((sk r1).drop 1) with
          | none => rw [hv] at h; cases h
          | some q =>
            obtain ⟨y, r2, d1, t1⟩ := q
            rw [hv] at h
            simp only at h
            by_cases h125 : hd (sk r2) = 125
            · rw [if_pos h125] at h
              obtain ⟨m1, m2⟩ := hd_sk_ne h125 (by decide)
              have hl2 : 1 ≤ (sk r2).length := List.length_pos_iff.2 m1
              rw [hV _ _ _ y r2 d1 t1 z hv (.inl m2)]
              simp only
              rw [sk_more m1, if_pos (by rw [hd_more m1]; exact h125), drop_more hl2]
              injection h with h
              injection h with h1 h
              injection h with h2 h
              rw [h1, h2, h]
            · rw [if_neg h125] at h
              by_cases h44 : hd (sk r2) = 44
              · rw [if_pos h44] at h
                obtain ⟨m1, m2⟩ := hd_sk_ne h44 (by decide)
                have hl2 : 1 ≤ (sk r2).length := List.length_pos_iff.2 m1
                rw [hV _ _ _ y r2 d1 t1 z hv (.inl m2)]
                simp only
                rw [sk_more m1, if_neg (by rw [hd_more m1]; exact h125), if_pos (by rw [hd_more m1]; exact h44), drop_more hl2]
                exact objGo_more hV n _ _ _ _ _ _ _ _ _ z h
              · rw [if_neg h44] at h; cases h
        · rw [if_neg h58] at h; cases h
    · rw [if_neg h34] at h; cases h

theorem nd_more {l : List UInt8} (h : nd l ≠ []) (z : List UInt8) : nd (l ++ z) = nd l ++ z := by
  unfold nd Lib.trimLeftS at h ⊢
  induction l with
  | nil => exact absurd rfl h
  | cons b l ih =>
    rw [List.cons_append, List.dropWhile_cons, List.dropWhile_cons]
    rw [List.dropWhile_cons] at h
    split
    · rename_i hb
      rw [if_pos hb] at h
      exact ih h
    · rfl
theorem nt_more {l : List UInt8} (h : nd l ≠ []) (z : List UInt8) : nt (l ++ z) = nt l := by
  unfold nt
  rw [nd_more h, List.length_append, List.length_append, show l.length + z.length - ((nd l).length + z.length) = l.length - (nd l).length by omega, List.take_append_of_le_length (by omega)]
theorem pv_blank (f dep : Nat) (d t : Bool) {l : List UInt8} (h : sk l = []) : pv f dep d t l = none := by
  cases f with
  | zero => rfl
  | succ f =>
    rw [pv, h]
    show (if (0 : UInt8) = 91 then _ else if (0 : UInt8) = 123 then _ else if (0 : UInt8) = 34 then _ else if (0 : UInt8) = 110 then _ else if (0 : UInt8) = 116 then _ else if (0 : UInt8) = 102 then _ else numP (d || deepB dep) t []) = none
    rw [if_neg (by decide), if_neg (by decide), if_neg (by decide), if_neg (by decide), if_neg (by decide), if_neg (by decide), numP, show nt [] = [] from rfl, numOk_nil, if_neg (by decide)]

theorem wordP_more {w : List UInt8} {k : Int} {s : ByteArray} {d t : Bool} {l : List UInt8} {x : JV} {r : List UInt8} {d' t' : Bool} (h : wordP w k s d t l = some (x, r, d', t')) (z : List UInt8) : wordP w k s d t (l ++ z) = some (x, r ++ z, d', t') := by
  unfold wordP at h ⊢
  split at h
  · rename_i hp
    have hp' := List.isPrefixOf_iff_prefix.1 hp
    have h2 : Lib.hasPrefix (l ++ z) w = true := List.isPrefixOf_iff_prefix.2 (hp'.trans (List.prefix_append _ _))
    rw [h2, if_pos rfl, drop_more hp'.length_le]
    injection h with h
    injection h with h1 h
    injection h with h3 h
    rw [h1, h3, h]
  · cases h

theorem pv_more : ∀ (f dep : Nat), More (pv f dep)
  | 0, _, _, _, _, _, _, _, _, _, h, _ => by cases h
  | f + 1, dep, d, t, l, x, r, d', t', z, h, hr => by
    have ih := pv_more f (dep + 1)
    have hne : sk l ≠ [] := by
      intro e
      rw [pv_blank _ _ _ _ e] at h
      cases h
    have hl1 : 1 ≤ (sk l).length := List.length_pos_iff.2 hne
    have e1 := sk_more hne z
    have e2 := hd_more hne z
    rw [pv] at h ⊢
    rw [e1, e2]
    by_cases h91 : hd (sk l) = 91
    · rw [if_pos h91] at h ⊢
      rw [drop_more hl1]
      unfold listP at h ⊢
      by_cases h93 : hd (sk ((sk l).drop 1)) = 93
      · rw [if_pos h93] at h
        obtain ⟨n1, _⟩ := hd_sk_ne h93 (by decide)
        rw [sk_more n1, if_pos (by rw [hd_more n1]; exact h93), drop_more (List.length_pos_iff.2 n1)]
        injection h with h
        injection h with g1 h
        injection h with g2 h
        rw [g1, g2, h]
      · rw [if_neg h93] at h
        have n1 : sk ((sk l).drop 1) ≠ [] := by
          intro e
          cases f with
          | zero => cases h
          | succ f =>
            rw [listGo, pv_blank _ _ _ _ e] at h
            cases h
        rw [if_neg (by rw [sk_more n1, hd_more n1]; exact h93)]
        exact listGo_more ih _ _ _ _ _ _ _ _ _ z h
    · rw [if_neg h91] at h ⊢
      by_cases h123 : hd (sk l) = 123
      · rw [if_pos h123] at h ⊢
        rw [drop_more hl1]
        unfold objP at h ⊢
        by_cases h125 : hd (sk ((sk l).drop 1)) = 125
        · rw [if_pos h125] at h
          obtain ⟨n1, _⟩ := hd_sk_ne h125 (by decide)
          rw [sk_more n1, if_pos (by rw [hd_more n1]; exact h125), drop_more (List.length_pos_iff.2 n1)]
          injection h with h
          injection h with g1 h
          injection h with g2 h
          rw [g1, g2, h]
        · rw [if_neg h125] at h
          have n1 : sk ((sk l).drop 1) ≠ [] := by
            intro e
            cases f with
            | zero => cases h
            | succ f =>
              rw [objGo, e, if_neg (by show ¬ (0 : UInt8) = 34; decide)] at h
              cases h
          rw [if_neg (by rw [sk_more n1, hd_more n1]; exact h125)]
          exact objGo_more ih _ _ _ _ _ _ _ _ _ _ z h
      · rw [if_neg h123] at h ⊢
        have hr' : r ≠ [] := by
          rcases hr with h1 | h1 | h1
          · exact h1
          · exact absurd h1 h91
          · exact absurd h1 h123
        by_cases h34 : hd (sk l) = 34
        · rw [if_pos h34] at h ⊢
          simp only [Option.map_eq_some_iff] at h ⊢
          obtain ⟨⟨tx, r1⟩, hq, e⟩ := h
          refine ⟨(tx, r1 ++ z), qt_more hq z, ?_⟩
          injection e with g1 e
          injection e with g2 e
          show (JV.mk 5 (ofL tx) [] [], r1 ++ z, d || deepB dep, t) = _
          rw [show r1 = r from g2, show JV.mk 5 (ofL tx) [] [] = x from g1, show (d || deepB dep, t) = (d', t') from e]
        · rw [if_neg h34] at h ⊢
          by_cases h110 : hd (sk l) = 110
          · rw [if_pos h110] at h ⊢
            exact wordP_more h z
          · rw [if_neg h110] at h ⊢
            by_cases h116 : hd (sk l) = 116
            · rw [if_pos h116] at h ⊢
              exact wordP_more h z
            · rw [if_neg h116] at h ⊢
              by_cases h102 : hd (sk l) = 102
              · rw [if_pos h102] at h ⊢
                exact wordP_more h z
              · rw [if_neg h102] at h ⊢
                unfold numP at h ⊢
                split at h
                · rename_i ho
                  injection h with h
                  injection h with g1 h
                  injection h with g2 h
                  have hnd : nd (sk l) ≠ [] := by rw [g2]; exact hr'
                  rw [nt_more hnd, nd_more hnd, if_pos ho, g1, g2, h]
                · cases h

end Go.Proofs.YtbcenaljaoejkaaDoor

/-
  JreadBack: cut it is none; doubled it is none.
-/
namespace Go.Proofs.YtbcenaljaoejkaaDoor
open Go.RowKit

def Leq (V V' : Rdg) : Prop := ∀ d t l q, V d t l = some q → V' d t l = some q

theorem listGo_mono {V V' : Rdg} (hV : Leq V V') : ∀ (n n' : Nat) (l : List UInt8) (xs : List JV) (d t : Bool) (q : PR), n ≤ n' → listGo V n l xs d t = some q → listGo V' n' l xs d t = some q
  | 0, _, _, _, _, _, _, _, h => by cases h
  | n + 1, n', l, xs, d, t, q, hn, h => by
    obtain ⟨m, rfl⟩ : ∃ m, n' = m + 1 := ⟨n' - 1, by omega⟩
    unfold listGo at h ⊢
    cases hv : V d t l with
    | none => rw [hv] at h; cases h
    | some p =>
      obtain ⟨y, r1, d1, t1⟩ := p
      rw [hv] at h
      rw [hV d t l _ hv]
      simp only at h ⊢
      split
      · rename_i h93; rw [if_pos h93] at h; exact h
      · rename_i h93
        rw [if_neg h93] at h
        split
        · rename_i h44
          rw [if_pos h44] at h
          exact listGo_mono hV n m _ _ _ _ _ (by omega) h
        · rename_i h44; rw [if_neg h44] at h; exact h
theorem objGo_mono {V V' : Rdg} (hV : Leq V V') : ∀ (n n' : Nat) (l : List UInt8) (ns : List ByteArray) (xs : List JV) (d t : Bool) (q : PR), n ≤ n' → objGo V n l ns xs d t = some q → objGo V' n' l ns xs d t = some q
  | 0, _, _, _, _, _, _, _, _, h => by cases h
  | n + 1, n', l, ns, xs, d, t, q, hn, h => by
    obtain ⟨m, rfl⟩ : ∃ m, n' = m + 1 := ⟨n' - 1, by omega⟩
    unfold objGo at h ⊢
    split
    · rename_i h34
      rw [if_pos h34] at h
      cases hq : qt (sk l) with
      | none => rw [hq] at h; cases h
      | some p =>
        obtain ⟨nm, r1⟩ := p
        rw [hq] at h
        simp only at h ⊢
        split
        · rename_i h58
          rw [if_pos h58] at h
          cases hv : V d (t || (ns.map vbl).contains nm) ((sk r1).drop 1) with
          | none => rw [hv] at h; cases h
          | some p =>
            obtain ⟨y, r2, d1, t1⟩ := p
            rw [hv] at h
            rw [hV _ _ _ _ hv]
            simp only at h ⊢
            split
            · rename_i h125; rw [if_pos h125] at h; exact h
            · rename_i h125
              rw [if_neg h125] at h
              split
              · rename_i h44
                rw [if_pos h44] at h
                exact objGo_mono hV n m _ _ _ _ _ _ (by omega) h
              · rename_i h44; rw [if_neg h44] at h; exact h
        · rename_i h58; rw [if_neg h58] at h; exact h
    · rename_i h34; rw [if_neg h34] at h; exact h

theorem pv_mono : ∀ (f f' dep : Nat), f ≤ f' → Leq (pv f dep) (pv f' dep)
  | 0, _, _, _, _, _, _, _, h => by cases h
  | f + 1, f', dep, hf, d, t, l, q, h => by
    obtain ⟨g, rfl⟩ : ∃ g, f' = g + 1 := ⟨f' - 1, by omega⟩
    have ih := pv_mono f g (dep + 1) (by omega)
    rw [pv] at h ⊢
    split
    · rename_i h1
      rw [if_pos h1] at h
      unfold listP at h ⊢
      split
      · rename_i h2; rw [if_pos h2] at h; exact h
      · rename_i h2
        rw [if_neg h2] at h
        exact listGo_mono ih _ _ _ _ _ _ _ (by omega) h
    · rename_i h1
      rw [if_neg h1] at h
      split
      · rename_i h2
        rw [if_pos h2] at h
        unfold objP at h ⊢
        split
        · rename_i h3; rw [if_pos h3] at h; exact h
        · rename_i h3
          rw [if_neg h3] at h
          exact objGo_mono ih _ _ _ _ _ _ _ _ (by omega) h
      · rename_i h2
        rw [if_neg h2] at h
        exact h

theorem sk_nil_bl : ∀ {r : List UInt8}, sk r = [] → isBl r
  | [], _ => fun _ hb => by cases hb
  | b :: r, h => by
    rw [sk_cons] at h
    split at h
    · rename_i hb
      intro c hc
      rcases List.mem_cons.1 hc with rfl | hc
      · exact hb
      · exact sk_nil_bl h c hc
    · cases h

/-- The text of a list or an object: its two ends. -/
theorem txt_ends {x : JV} (h : x.k = 7 ∨ x.k = 8) : ∃ a z b, txt 12 x = a :: (z ++ [b]) ∧ (a = 91 ∨ a = 123) ∧ blankU b = false := by
  rcases h with h | h
  · exact ⟨91, _, 93, by rw [txt, if_neg (by omega), if_neg (by omega), if_pos h]; rfl, .inl rfl, by decide⟩
  · exact ⟨123, _, 125, by rw [txt, if_neg (by omega), if_neg (by omega), if_neg (by omega), if_pos h]; rfl, .inr rfl, by decide⟩

theorem read_cut {x : JV} (hc : chkAt 12 x = true) (h78 : x.k = 7 ∨ x.k = 8) (hlen : (txt 12 x).length ≤ 4000) {k : Nat} (hk : k < (txt 12 x).length) : readP ((txt 12 x).take k) = (none, 2) := by
  obtain ⟨a, z, b, hs, ha, hb⟩ := txt_ends h78
  have hkl : ((txt 12 x).take k).length = k := by rw [List.length_take]; omega
  unfold readP
  rw [if_neg (by omega), hkl]
  cases hp : pv (k + 1) 1 false false ((txt 12 x).take k) with
  | none => rfl
  | some q =>
    obtain ⟨x1, r1, d1, t1⟩ := q
    simp only
    by_cases hr : 0 < (sk r1).length
    · rw [if_pos hr]
    · exfalso
      have hr0 : sk r1 = [] := List.eq_nil_of_length_eq_zero (by omega)
      have hk1 : 1 ≤ k := by
        rcases Nat.eq_zero_or_pos k with h0 | h0
        · subst h0
          rw [List.take_zero, pv_blank _ _ _ _ rfl] at hp
          cases hp
        · exact h0
      have hhd : hd (sk ((txt 12 x).take k)) = 91 ∨ hd (sk ((txt 12 x).take k)) = 123 := by
        obtain ⟨j, rfl⟩ : ∃ j, k = j + 1 := ⟨k - 1, by omega⟩
        rw [hs, List.take_succ_cons]
        rcases ha with rfl | rfl
        · exact .inl rfl
        · exact .inr rfl
      have h1 := pv_more (k + 1) 1 false false _ _ _ _ _ ((txt 12 x).drop k) hp (.inr hhd)
      rw [List.take_append_drop] at h1
      have h2 := pv_mono (k + 1) ((txt 12 x).length + 1) 1 (by omega) _ _ _ _ h1
      obtain ⟨r', h3, h4⟩ := back_all (bl := []) (fun _ h => by cases h) 12 x ((txt 12 x).length + 1) 1 hc (by rw [btx_nil]; omega) (by omega) false [] (fun b hb => by cases hb)
      rw [btx_nil, List.append_nil, h2] at h3
      injection h3 with h3
      injection h3 with _ h3
      injection h3 with h3 _
      rw [← h3, sk_bl (sk_nil_bl hr0)] at h4
      have hbl := sk_nil_bl h4
      have hmem : b ∈ (txt 12 x).drop k := by
        rw [hs, ← List.cons_append]
        rw [List.drop_append_of_le_length (by rw [hs] at hk; simp at hk ⊢; omega)]
        simp
      rw [hbl b hmem] at hb
      cases hb

theorem read_double {x : JV} (hc : chkAt 12 x = true) (h78 : x.k = 7 ∨ x.k = 8) (hlen : (txt 12 x ++ txt 12 x).length ≤ 4000) : readP (txt 12 x ++ txt 12 x) = (none, 2) := by
  obtain ⟨a, z, b, hs, ha, _⟩ := txt_ends h78
  obtain ⟨r', h1, h2⟩ := back_all (bl := []) (fun _ h => by cases h) 12 x ((txt 12 x ++ txt 12 x).length + 1) 1 hc (by rw [btx_nil, List.length_append]; omega) (by omega) false (txt 12 x) (fun c hc => by
    rw [hs] at hc
    simp at hc
    subst hc
    unfold isNS
    rcases ha with rfl | rfl <;> decide)
  rw [btx_nil] at h1
  unfold readP
  rw [if_neg (by omega), h1]
  show (if 0 < (sk r').length then _ else _) = _
  rw [h2, if_pos ?_]
  rw [hs]
  rcases ha with rfl | rfl
  · show 0 < (91 :: (z ++ [b])).length
    simp
  · show 0 < (123 :: (z ++ [b])).length
    simp

end Go.Proofs.YtbcenaljaoejkaaDoor

/-
  JreadBack: blanks behind the signs that stand outside of quotes, as the law puts them: the text with blanks.
-/
namespace Go.Proofs.YtbcenaljaoejkaaDoor
open Go.RowKit

def tog (q : Bool) (p c : UInt8) : Bool := if c = 34 ∧ p ≠ 92 then !q else q
def isSg (c : UInt8) : Bool := c == 91 || c == 93 || c == 123 || c == 125 || c == 44 || c == 58
/-- What the law makes of the rest of a text: inside of quotes or not, behind a byte. -/
def brk (bl : List UInt8) : Bool → UInt8 → List UInt8 → List UInt8
  | _, _, [] => []
  | q, p, c :: r => c :: ((if tog q p c = false ∧ isSg c = true then bl else []) ++ brk bl (tog q p c) c r)

theorem brk_len {bl : List UInt8} (hb : bl.length ≤ 2) : ∀ (q : Bool) (p : UInt8) (l : List UInt8), (brk bl q p l).length ≤ 3 * l.length
  | _, _, [] => Nat.zero_le _
  | q, p, c :: r => by
    have h1 := brk_len hb (tog q p c) c r
    have h2 : (if tog q p c = false ∧ isSg c = true then bl else []).length ≤ 2 := by
      split
      · exact hb
      · exact Nat.zero_le _
    unfold brk
    simp only [List.length_cons, List.length_append]
    omega

/-- Inside of quotes: is it not left? Then the last byte. -/
def inRun : UInt8 → List UInt8 → Option UInt8
  | p, [] => some p
  | p, c :: r => if c = 34 ∧ p ≠ 92 then none else inRun c r
theorem brk_in {bl : List UInt8} : ∀ (l r : List UInt8) (p p' : UInt8), inRun p l = some p' → brk bl true p (l ++ r) = l ++ brk bl true p' r
  | [], r, p, p', h => by cases h; rfl
  | c :: l, r, p, p', h => by
    unfold inRun at h
    split at h
    · cases h
    · rename_i hc
      have ht : tog true p c = true := by unfold tog; rw [if_neg hc]
      rw [List.cons_append, brk, ht, if_neg (by simp), brk_in l r c p' h]
      rfl
def escIn (n : Nat) : Bool := match escB (UInt8.ofNat n) with
  | [] => false
  | c :: t => c != 34 && (match inRun c t with
    | none => false
    | some p => p != 92)
theorem escIn_all : ∀ n : Fin 256, n.val = 92 ∨ escIn n.val = true := by decide +kernel
theorem esc_in {b : UInt8} (h : b ≠ 92) (p : UInt8) : ∃ p', p' ≠ 92 ∧ inRun p (escB b) = some p' := by
  have h1 := escIn_all ⟨b.toNat, b.toNat_lt⟩
  have h2 : escIn b.toNat = true := by
    rcases h1 with h1 | h1
    · exact absurd (UInt8.toNat_inj.1 h1) h
    · exact h1
  unfold escIn at h2
  rw [show UInt8.ofNat b.toNat = b from by simp] at h2
  cases hb : escB b with
  | nil => rw [hb] at h2; cases h2
  | cons c t =>
    rw [hb] at h2
    simp only [Bool.and_eq_true, bne_iff_ne] at h2
    cases hr : inRun c t with
    | none => rw [hr] at h2; exact absurd h2.2 (by decide)
    | some q =>
      rw [hr] at h2
      refine ⟨q, by simpa using h2.2, ?_⟩
      unfold inRun
      rw [if_neg (fun e => h2.1 e.1), hr]
theorem inRun_app : ∀ (l m : List UInt8) (p p' : UInt8), inRun p l = some p' → inRun p (l ++ m) = inRun p' m
  | [], _, _, _, h => by cases h; rfl
  | c :: l, m, p, p', h => by
    have e : ∀ z, inRun p (c :: z) = if c = 34 ∧ p ≠ 92 then none else inRun c z := fun _ => rfl
    rw [List.cons_append]
    rw [e] at h ⊢
    split at h
    · cases h
    · rename_i hc
      rw [if_neg hc]
      exact inRun_app l m c p' h
theorem quote_in : ∀ (l : List UInt8) (p : UInt8), p ≠ 92 → (∀ b ∈ l, b ≠ 92) → ∃ p', p' ≠ 92 ∧ inRun p (quoteIn l) = some p'
  | [], p, hp, _ => ⟨p, hp, rfl⟩
  | b :: l, p, hp, h => by
    obtain ⟨p1, h1, h2⟩ := esc_in (h b (by simp)) p
    obtain ⟨p2, h3, h4⟩ := quote_in l p1 h1 fun c hc => h c (by simp [hc])
    refine ⟨p2, h3, ?_⟩
    have e : quoteIn (b :: l) = escB b ++ quoteIn l := rfl
    rw [e, inRun_app _ _ _ _ h2, h4]

/-- A piece that begins and ends outside of quotes. -/
def Trans (bl l l' : List UInt8) : Prop := ∀ (p : UInt8) (r : List UInt8), p ≠ 92 → ∃ p', p' ≠ 92 ∧ brk bl false p (l ++ r) = l' ++ brk bl false p' r
theorem Trans.app {bl a a' b b' : List UInt8} (h1 : Trans bl a a') (h2 : Trans bl b b') : Trans bl (a ++ b) (a' ++ b') := by
  intro p r hp
  obtain ⟨p1, q1, e1⟩ := h1 p (b ++ r) hp
  obtain ⟨p2, q2, e2⟩ := h2 p1 r q1
  exact ⟨p2, q2, by rw [List.append_assoc, e1, e2, List.append_assoc]⟩
theorem Trans.nil (bl : List UInt8) : Trans bl [] [] := fun p _ hp => ⟨p, hp, rfl⟩
theorem Trans.sign (bl : List UInt8) {c : UInt8} (h : isSg c = true) (h1 : c ≠ 34) (h2 : c ≠ 92) : Trans bl [c] (c :: bl) := by
  intro p r hp
  refine ⟨c, h2, ?_⟩
  have ht : tog false p c = false := by unfold tog; rw [if_neg (fun e => h1 e.1)]
  show brk bl false p (c :: r) = _
  rw [brk, ht, if_pos ⟨rfl, h⟩]
  rfl
theorem Trans.plain (bl : List UInt8) : ∀ (l : List UInt8), (∀ c ∈ l, isSg c = false ∧ c ≠ 34 ∧ c ≠ 92) → Trans bl l l
  | [], _ => Trans.nil bl
  | c :: l, h => by
    obtain ⟨h1, h2, h3⟩ := h c (by simp)
    have hc : Trans bl [c] [c] := by
      intro p r hp
      refine ⟨c, h3, ?_⟩
      have ht : tog false p c = false := by unfold tog; rw [if_neg (fun e => h2 e.1)]
      show brk bl false p (c :: r) = _
      rw [brk, ht, if_neg (by rw [h1]; simp)]
      rfl
    exact hc.app (Trans.plain bl l fun b hb => h b (by simp [hb]))
theorem Trans.quote (bl : List UInt8) {l : List UInt8} (hv : Lib.validD l = true) (h : ∀ b ∈ l, b ≠ 92) : Trans bl (quoteB l) (quoteB l) := by
  intro p r hp
  obtain ⟨p1, q1, e1⟩ := quote_in l 34 (by decide) h
  have e : quoteB l = 34 :: (quoteIn l ++ [34]) := by unfold quoteB; rw [if_pos hv]
  refine ⟨34, by decide, ?_⟩
  have ht : tog false p 34 = true := by unfold tog; rw [if_pos ⟨rfl, hp⟩]; rfl
  have ht2 : tog true p1 34 = false := by unfold tog; rw [if_pos ⟨rfl, q1⟩]; rfl
  rw [e, List.cons_append, List.append_assoc, brk, ht, if_neg (by simp), brk_in _ _ _ _ e1]
  show 34 :: ([] ++ (quoteIn l ++ brk bl true p1 (34 :: r))) = _
  rw [brk, ht2, if_neg (by decide)]
  simp
theorem plainS_ne {s : ByteArray} (h : plainS s = true) : ∀ b ∈ vbl s, b ≠ 92 := fun b hb => by
  have := List.all_eq_true.1 h b hb
  simpa using this
theorem numC_plain {c : UInt8} (h : numC c = true) : isSg c = false ∧ c ≠ 34 ∧ c ≠ 92 := by
  have hd : ∀ n : Fin 256, numC (UInt8.ofNat n.val) = true → isSg (UInt8.ofNat n.val) = false ∧ UInt8.ofNat n.val ≠ 34 ∧ UInt8.ofNat n.val ≠ 92 := by decide +kernel
  have := hd ⟨c.toNat, c.toNat_lt⟩
  simp only [UInt8.ofNat_toNat] at this
  exact this h

theorem tr_pts {bl : List UInt8} (n : Nat) (ob : Bool) : ∀ (ps : List JV) (ns : List ByteArray) (fst : Bool), (∀ q ∈ ps, Trans bl (txt n q) (btx bl n q)) → (ob = true → ns.length = ps.length ∧ ∀ s ∈ ns, Lib.validD (vbl s) = true ∧ plainS s = true) → Trans bl (pts (txt n) ob fst ns ps) (bpts bl (btx bl n) ob fst ns ps)
  | [], _, _, _, _ => Trans.nil bl
  | p :: ps, ns, fst, hq, hn => by
    unfold pts bpts
    have t1 : Trans bl (if fst then [] else [44]) (if fst then [] else 44 :: bl) := by
      cases fst
      · exact Trans.sign bl (by decide) (by decide) (by decide)
      · exact Trans.nil bl
    have t2 : Trans bl (if ob then quoteB (vbl (ns.headD ⟨#[]⟩)) ++ [58] else []) (if ob then quoteB (vbl (ns.headD ⟨#[]⟩)) ++ 58 :: bl else []) := by
      cases ob with
      | false => exact Trans.nil bl
      | true =>
        obtain ⟨hl, hs⟩ := hn rfl
        cases ns with
        | nil => cases hl
        | cons s r =>
          obtain ⟨h1, h2⟩ := hs s (by simp)
          exact (Trans.quote bl h1 (plainS_ne h2)).app (Trans.sign bl (by decide) (by decide) (by decide))
    refine t1.app (t2.app ((hq p (by simp)).app (tr_pts n ob ps ns.tail false (fun q h => hq q (by simp [h])) fun ho => ?_)))
    obtain ⟨hl, hs⟩ := hn ho
    exact ⟨by rw [List.length_tail, hl]; rfl, fun s h => hs s (List.mem_of_mem_tail h)⟩

theorem tr_all {bl : List UInt8} : ∀ (n : Nat) (x : JV), chkAt n x = true → tame n x = true → Trans bl (txt n x) (btx bl n x)
  | 0, _, h, _ => by cases h
  | n + 1, x, hc, ht => by
    have ht0 := ht
    unfold tame at ht
    rw [Bool.and_eq_true, Bool.and_eq_true] at ht
    obtain ⟨⟨hts, htn⟩, htp⟩ := ht
    by_cases h7 : x.k = 7
    · have hc' := hc
      unfold chkAt at hc'
      rw [Bool.and_eq_true] at hc'
      rw [txt_list h7, show btx bl (n + 1) x = (91 :: bl) ++ (bpts bl (btx bl n) false true x.ns x.ps ++ (93 :: bl)) by unfold btx; rw [if_neg (by omega), if_neg (by omega), if_pos h7]; rfl]
      exact (Trans.sign bl (by decide) (by decide) (by decide)).app ((tr_pts n false x.ps x.ns true (fun q hq => tr_all n q (List.all_eq_true.1 hc'.2 q hq) (List.all_eq_true.1 htp q hq)) (fun h => by cases h)).app (Trans.sign bl (by decide) (by decide) (by decide)))
    · by_cases h8 : x.k = 8
      · have hc' := hc
        unfold chkAt at hc'
        rw [Bool.and_eq_true, self_obj h8] at hc'
        simp only [Bool.and_eq_true, decide_eq_true_eq] at hc'
        rw [txt_obj h8, show btx bl (n + 1) x = (123 :: bl) ++ (bpts bl (btx bl n) true true x.ns x.ps ++ (125 :: bl)) by unfold btx; rw [if_neg (by omega), if_neg (by omega), if_neg (by omega), if_pos h8]; rfl]
        exact (Trans.sign bl (by decide) (by decide) (by decide)).app ((tr_pts n true x.ps x.ns true (fun q hq => tr_all n q (List.all_eq_true.1 hc'.2 q hq) (List.all_eq_true.1 htp q hq)) (fun _ => ⟨hc'.1.1.2, fun s hs => ⟨nm_valids hc'.1.2 s hs, List.all_eq_true.1 htn s hs⟩⟩)).app (Trans.sign bl (by decide) (by decide) (by decide)))
      · obtain ⟨_, _, hlf⟩ := leaf_parts h7 h8 hc
        rcases leaf_kind hlf with ⟨hk, _⟩ | ⟨hk, hb⟩ | ⟨hk, hn⟩ | ⟨hk, hn⟩ | ⟨hk, hv⟩
        · rw [txt_null hk, show btx bl (n + 1) x = nullL by unfold btx; rw [if_pos hk]]
          exact Trans.plain bl _ (by decide)
        · rw [txt_leaf (by omega) (by omega) h7 h8, show btx bl (n + 1) x = vbl x.s by unfold btx; rw [if_neg (by omega), if_neg (by omega), if_neg (by omega), if_neg (by omega)]]
          rcases hb with hb | hb
          · rw [hb]; exact Trans.plain bl _ (by decide)
          · rw [hb]; exact Trans.plain bl _ (by decide)
        · rw [txt_leaf (by omega) (by omega) h7 h8, show btx bl (n + 1) x = vbl x.s by unfold btx; rw [if_neg (by omega), if_neg (by omega), if_neg (by omega), if_neg (by omega)]]
          exact Trans.plain bl _ fun c hc => numC_plain (List.all_eq_true.1 (num_all hn.1) c hc)
        · rw [txt_leaf (by omega) (by omega) h7 h8, show btx bl (n + 1) x = vbl x.s by unfold btx; rw [if_neg (by omega), if_neg (by omega), if_neg (by omega), if_neg (by omega)]]
          exact Trans.plain bl _ fun c hc => numC_plain (List.all_eq_true.1 (num_all hn.1) c hc)
        · rw [txt_str hk, show btx bl (n + 1) x = quoteB (vbl x.s) by unfold btx; rw [if_neg (by omega), if_pos hk]]
          exact Trans.quote bl hv (plainS_ne hts)

/-- The whole. -/
theorem brk_all {bl : List UInt8} {x : JV} (hc : chkAt 12 x = true) (ht : tame 12 x = true) : brk bl false 0 (txt 12 x) = btx bl 12 x := by
  obtain ⟨p', _, e⟩ := tr_all (bl := bl) 12 x hc ht 0 [] (by decide)
  simpa [brk] using e

end Go.Proofs.YtbcenaljaoejkaaDoor

/-
  JreadBack's walk.
-/
namespace Go.Proofs.YtbcenaljaoejkaaDoor
open Go.RowKit

def bks : Array Value := #[.string ⟨#[32]⟩, .string ⟨#[10]⟩, .string ⟨#[9, 13]⟩, .string ⟨#[32, 32]⟩]
theorem blank_of (k : Int) (h0 : 0 ≤ k) (h4 : k < 4) : ∃ BS : ByteArray, (∀ w, (Instr.index 36 (.agg #[.string ⟨#[32]⟩, .string ⟨#[10]⟩, .string ⟨#[9, 13]⟩, .string ⟨#[32, 32]⟩]) (.int .i64 k)).run Tryd.prog w = .ok (.string BS) w) ∧ BS.size ≤ 2 ∧ Hid (isBl BS.data.toList) := by
  have h : k = 0 ∨ k = 1 ∨ k = 2 ∨ k = 3 := by omega
  rcases h with rfl | rfl | rfl | rfl
  · exact ⟨⟨#[32]⟩, fun _ => by kernel_rfl, by decide, Lib.hid (by unfold isBl; decide)⟩
  · exact ⟨⟨#[10]⟩, fun _ => by kernel_rfl, by decide, Lib.hid (by unfold isBl; decide)⟩
  · exact ⟨⟨#[9, 13]⟩, fun _ => by kernel_rfl, by decide, Lib.hid (by unfold isBl; decide)⟩
  · exact ⟨⟨#[32, 32]⟩, fun _ => by kernel_rfl, by decide, Lib.hid (by unfold isBl; decide)⟩

set_option maxHeartbeats 1000000 in
theorem jreadBack_long (a : Option Addr) (len cap : Nat) (z y : Int) (w : World) (h : 40 < len) :
    Calls Tryd.prog 4 #[.slice a len cap, .int .i64 z, .int .i64 y] w (TrueBelow w) := by
  have d0 : decide (40 < len) = true := by simpa using h
  have d1 : decide ((40 : Int) < len) = true := by simp; omega
  go_enter Tryd.func4, Tryd.ntmps4
  go_wp2_with ((go_at_call 7); (with_reducible refine (awake_true _).mono ?_); rintro e w7 ⟨rfl, b7⟩)
  go_ret
  exact ⟨rfl, b7⟩

def agV (x : JV) (an : Option Addr) (cn : Nat) (ap : Option Addr) (cp : Nat) : Value := .agg #[.int .i64 x.k, .string x.s, .slice an x.ns.length cn, .slice ap x.ps.length cp]

def pvAt (l : List UInt8) (n : Nat) : UInt8 := if n = 0 then 0 else l.getD (n - 1) 0
def BrkRel (BS s : ByteArray) (TT : List UInt8) (W : World) (k : Nat) (t q i : Value) (wr : World) : Prop :=
  ∃ (n : Nat) (S : ByteArray) (qb : Bool), k = s.size - n ∧ n ≤ s.size ∧ i = .int .i64 n ∧ t = .string S ∧ q = .bool qb ∧ W = wr ∧ BS.data.toList ++ TT = S.data.toList ++ brk BS.data.toList qb (pvAt s.data.toList n) (s.data.toList.drop n)
theorem pv_next (s : ByteArray) (n : Nat) (h : n < s.size) : pvAt s.data.toList (n + 1) = s[n] := by
  unfold pvAt
  rw [if_neg (by omega), Nat.add_sub_cancel, List.getD_eq_getElem?_getD, List.getElem?_eq_getElem (show n < s.data.toList.length from h)]
  rfl
theorem byte_is (c d : UInt8) (z : Int) (hz : (d.toNat : Int) = z) : ((c.toNat : Int) == z) = decide (c = d) := by
  rw [Bool.eq_iff_iff, beq_iff_eq, decide_eq_true_eq, ← UInt8.toNat_inj, ← hz]
  omega
theorem byte_not (c d : UInt8) (z : Int) (hz : (d.toNat : Int) = z) : ((c.toNat : Int) != z) = decide (c ≠ d) := by
  show (!((c.toNat : Int) == z)) = _
  rw [byte_is c d z hz]
  by_cases h : c = d <;> simp [h]
theorem ext_oneB (s : ByteArray) (n : Nat) (h : n < s.size) : (s.extract n (n + 1)).data.toList = [s[n]] := by
  have e := drop_cons s n h
  rw [Lib.extract_data, e, Nat.add_sub_cancel_left]
  rfl
theorem ext_to (s : ByteArray) (n : Nat) : (s.extract 0 n).data.toList = s.data.toList.take n := by
  rw [Lib.extract_data]
  simp

set_option maxHeartbeats 10000000 in
set_option maxRecDepth 100000 in
theorem jreadBack_short (a : Option Addr) (cap : Nat) (zs : List Int) (z y : Int) (w : World) (h0 : zs.length ≤ 40) (hz : IntsAt w w.heap.size a zs) :
    Calls Tryd.prog 4 #[.slice a zs.length cap, .int .i64 z, .int .i64 y] w (TrueBelow w) := by
  have d2 : decide (40 < zs.length) = false := by simpa using h0
  have d3 : decide ((40 : Int) < zs.length) = false := by simp; omega
  have hm1 : Calls Tryd.prog 11 #[.slice a zs.length cap, .int .i64 0, .int .i64 6] w (MadeIs 0 6 w) := made_any 6 (by omega) (by omega) w.heap.size a cap zs 0 w (by omega) (by omega) (Nat.le_refl _) hz
  clear hz
  go_enter Tryd.func4, Tryd.ntmps4
  go_upto_region 4 with ((go_at_call 11); (with_reducible refine hm1.mono ?_); rintro e w1 he; obtain ⟨x, v, at1, rfl, hR1, hck1, htt1, hb1⟩ := he.use2 (by omega); obtain ⟨an, cn, ap, cp, rfl⟩ := hR1.shape)
  clear d2 d3 hm1 he h0
  obtain ⟨V, hV⟩ : ∃ V, V = w1.alloc (.cells #[.int .i64 x.k, .string x.s, .slice an x.ns.length cn, .slice ap x.ps.length cp] 26) := ⟨_, rfl⟩
  rw [← hV]
  have hVs : V.heap.size = w1.heap.size + 1 := by rw [hV]; simp
  have B2 : Below w1.heap.size w1 V := by rw [hV]; exact (Below.refl _ w1).alloc (Nat.le_refl _) _
  have BV : Below w.heap.size w V := hb1.trans (B2.mono hb1.size)
  have qx : ∀ j, V.cell? ⟨w1.heap.size, j, none⟩ = (#[Value.int .i64 x.k, .string x.s, .slice an x.ns.length cn, .slice ap x.ps.length cp] : Array Value)[j]? := fun j => by rw [hV]; go_simp
  have F : ∀ W, Below V.heap.size V W → W.cell? ⟨w1.heap.size, 0, none⟩ = some (.int .i64 x.k) ∧ W.cell? ⟨w1.heap.size, 1, none⟩ = some (.string x.s) ∧ W.cell? ⟨w1.heap.size, 2, none⟩ = some (.slice an x.ns.length cn) ∧ W.cell? ⟨w1.heap.size, 3, none⟩ = some (.slice ap x.ps.length cp) := fun W hb => by
    have c1 : ∀ j, W.cell? ⟨w1.heap.size, j, none⟩ = V.cell? ⟨w1.heap.size, j, none⟩ := fun j => hb.cell (p := ⟨w1.heap.size, j, none⟩) (by show w1.heap.size < _; omega)
    exact ⟨(c1 0).trans (qx 0), (c1 1).trans (qx 1), (c1 2).trans (qx 2), (c1 3).trans (qx 3)⟩
  have R1 : Rd V V.heap.size 6 x (.agg #[.int .i64 x.k, .string x.s, .slice an x.ns.length cn, .slice ap x.ps.length cp]) := (hR1.below B2).more (by omega)
  have T1 : Calls Tryd.prog 12 #[.agg #[.int .i64 x.k, .string x.s, .slice an x.ns.length cn, .slice ap x.ps.length cp]] V (StrBelow V (txt 12 x)) := by
    have := refText_any V.heap.size 6 x _ V (Nat.le_refl _) R1 (by omega)
    rwa [show textB x = txt 12 x by unfold textB; rw [hck1]; rfl] at this
  obtain ⟨s, hs⟩ : ∃ s : ByteArray, s = ⟨(txt 12 x).toArray⟩ := ⟨_, rfl⟩
  have hsl : s.data.toList = txt 12 x := by rw [hs]
  have hsz : s.size ≤ 1124 := by have := htt1.1; rw [← hsl] at this; exact this
  unfold StrBelow at T1
  rw [← hs] at T1
  have RB : ∀ W, Calls Tryd.prog 8 #[.string s] W fun e w' => Below W.heap.size W w' ∧ ∃ v, e = .returned (.tuple #[v, .int .i64 0]) ∧ RdD w' (fun b => W.heap.size ≤ b ∧ b < w'.heap.size) (s.size + 1) x v := fun W => read_val (by
    have := read_back (bl := []) (pre := []) (fun _ h => by cases h) (fun _ h => by cases h) x hck1 (by rw [btx_nil]; have := htt1.1; simp; omega)
    rw [btx_nil] at this
    rw [hsl]
    simpa using this) W
  have HT := Lib.hid htt1
  have HC := Lib.hid hck1
  have HSL := Lib.hid hsl
  have HR := Lib.hid R1
  obtain ⟨g0, g1, g2, g3⟩ := F _ (Below.refl _ V)
  clear hR1 hV qx R1 hs hsl htt1 hck1 hb1 B2
  go_upto_region 6 with (first | ((go_at_call 12); (with_reducible refine T1.mono ?_); rintro e w2 ⟨rfl, b2⟩) | ((go_at_call 8); (with_reducible refine (RB _).mono ?_); rintro e w3 ⟨b3, v3, rfl, hR3⟩; obtain ⟨an3, cn3, ap3, cp3, rfl⟩ := hR3.shape))
  have RX := hR3.toB (B := w3.heap.size) fun b hb => hb.2
  have b23 : Below V.heap.size V w3 := b2.trans (b3.mono b2.size)
  clear b2 b3 hR3 T1 RB g0 g1 g2 g3
  obtain ⟨W3, hW3⟩ : ∃ W3, W3 = w3.alloc (.cells #[.int .i64 x.k, .string x.s, .slice an3 x.ns.length cn3, .slice ap3 x.ps.length cp3] 26) := ⟨_, rfl⟩
  rw [← hW3]
  have hs3 : W3.heap.size = w3.heap.size + 1 := by rw [hW3]; simp
  have b33 : Below w3.heap.size w3 W3 := by rw [hW3]; exact (Below.refl _ w3).alloc (Nat.le_refl _) _
  have bc : Below V.heap.size V W3 := b23.trans (b33.mono b23.size)
  have x0 : W3.cell? ⟨w3.heap.size, 0, none⟩ = some (.int .i64 x.k) := by rw [hW3]; go_simp
  have x1 : W3.cell? ⟨w3.heap.size, 1, none⟩ = some (.string x.s) := by rw [hW3]; go_simp
  have x2 : W3.cell? ⟨w3.heap.size, 2, none⟩ = some (.slice an3 x.ns.length cn3) := by rw [hW3]; go_simp
  have x3 : W3.cell? ⟨w3.heap.size, 3, none⟩ = some (.slice ap3 x.ps.length cp3) := by rw [hW3]; go_simp
  obtain ⟨g0, g1, g2, g3⟩ := F _ bc
  have SM := refsame_any W3.heap.size 6 _ x x _ _ W3 (Nat.le_refl _) ((HR.out.below bc).more bc.size) ((RX.below b33).more (by omega))
  unfold SameIs at SM
  rw [eqB_true rfl] at SM
  have hVw : w1.heap.size < w3.heap.size := by have := b23.size; omega
  have HS3 := Lib.hid hs3
  clear hW3 hs3 b33 RX b23
  have hq0 : 0 ≤ y % 4 := Int.emod_nonneg _ (by decide)
  have hq4 : y % 4 < 4 := Int.emod_lt_of_pos _ (by decide)
  have PL : ∀ W, Calls Tryd.prog 13 #[.int .i64 y, .int .i64 4] W fun e w' => e = .returned (.int .i64 (y % 4)) ∧ W = w' := fun W => place_any y 4 W (by decide) (by decide)
  obtain ⟨BS, hix, hbz, HBL⟩ := blank_of (y % 4) hq0 hq4
  generalize y % 4 = yy at *
  go_upto_region 10 with (first | ((go_at_call 10); (with_reducible refine SM.mono ?_); rintro e w4 ⟨rfl, b4⟩) | ((go_at_call 13); (with_reducible refine (PL _).mono ?_); rintro e w5 ⟨rfl, rfl⟩))
  have bd : Below V.heap.size V w4 := bc.trans (b4.mono bc.size)
  have HBR := Lib.hid (brk_all (bl := BS.data.toList) HC.out HT.out.2)
  obtain ⟨TT, hTT⟩ : ∃ TT, brk BS.data.toList false 0 s.data.toList = TT := ⟨_, rfl⟩
  have hTl : TT.length ≤ 3 * s.size := by rw [← hTT]; exact brk_len (show BS.data.toList.length ≤ 2 from hbz) _ _ _
  have HTT := Lib.hid hTT
  clear x0 x1 x2 x3 g0 g1 g2 g3 SM PL hix b4 bc hTT hq0 hq4
  go_wp2_with fail
  go_loopg [13, 14, 15, 16] s.size (fun k t q i _ wr => BrkRel BS s TT w4 k t q i wr)
  case atStart => exact ⟨0, BS, false, rfl, Nat.zero_le _, rfl, rfl, rfl, rfl, by rw [List.drop_zero, ← HTT.out]; rfl⟩
  case round =>
    obtain ⟨n, S, qb, rfl, hn, rfl, rfl, rfl, rfl, hS⟩ := hrel
    have HS := Lib.hid hS
    clear hS
    have hSz : S.size ≤ 3400 := by
      have h1 := congrArg List.length HS.out
      have h2 : BS.data.toList.length = BS.size := rfl
      have h3 : S.data.toList.length = S.size := rfl
      rw [List.length_append, List.length_append] at h1
      omega
    by_cases hlt : n < s.size
    · have hd : decide ((n : Int) < (s.size : Int)) = true := decide_eq_true (by omega)
      have HN := Lib.hid (show BS.data.toList ++ TT = (S ++ s.extract n (n + 1)).data.toList ++ ((if tog qb (pvAt s.data.toList n) s[n] = false ∧ isSg s[n] = true then BS.data.toList else []) ++ brk BS.data.toList (tog qb (pvAt s.data.toList n) s[n]) (pvAt s.data.toList (n + 1)) (s.data.toList.drop (n + 1))) by
        rw [HS.out, drop_cons s n hlt, app_list, ext_oneB s n hlt, pv_next s n hlt, List.append_assoc]
        rfl)
      have hS1 : (S ++ s.extract n (n + 1)).size ≤ 3401 := by rw [ByteArray.size_append]; have : (s.extract n (n + 1)).size = 1 := congrArg List.length (ext_oneB s n hlt); omega
      have hez : (s.extract n (n + 1)).size ≤ 1 := Nat.le_of_eq (congrArg List.length (ext_oneB s n hlt))
      have E34 := Lib.hid (byte_is s[n] 34 34 rfl)
      go_upto_region 14 with fail
      clear hez hSz HS
      generalize S ++ s.extract n (n + 1) = S1 at *
      go_cut [79] (fun b wc => b = .bool (decide (s[n] = 34 ∧ pvAt s.data.toList n ≠ 92)) ∧ w4 = wc)
      case first =>
        by_cases hc : s[n] = 34
        · have e1 : ((s[n].toNat : Int) == 34) = true := by rw [E34.out]; exact decide_eq_true hc
          cases n with
          | zero =>
            have HR2 := Lib.hid (show decide (s[0] = 34 ∧ pvAt s.data.toList 0 ≠ 92) = true from decide_eq_true ⟨hc, by unfold pvAt; rw [if_pos rfl]; decide⟩)
            clear hc
            go_wp2_with fail
            go_meet
            case rel => exact ⟨congrArg Value.bool HR2.out.symm, rfl⟩
          | succ m =>
            have hm : m < s.size := by omega
            have HR2 := Lib.hid (show decide (s[m + 1] = 34 ∧ pvAt s.data.toList (m + 1) ≠ 92) = decide (s[m] ≠ 92) from by
              rw [pv_next s m hm, Bool.eq_iff_iff, decide_eq_true_eq, decide_eq_true_eq]
              exact ⟨fun h => h.2, fun h => ⟨hc, h⟩⟩)
            have E92 := Lib.hid (byte_not s[m] 92 92 rfl)
            have em : (((m + 1 : Nat) : Int) == 0) = false := by simp; omega
            clear hc
            go_wp2_with fail
            go_meet
            case rel => exact ⟨congrArg Value.bool (E92.out.trans HR2.out.symm), rfl⟩
        · have e1 : ((s[n].toNat : Int) == 34) = false := by rw [E34.out]; exact decide_eq_false hc
          have HR2 := Lib.hid (show decide (s[n] = 34 ∧ pvAt s.data.toList n ≠ 92) = false from decide_eq_false fun h => hc h.1)
          clear hc
          go_wp2_with fail
          go_meet
          case rel => exact ⟨congrArg Value.bool HR2.out.symm, rfl⟩
      case rest =>
        obtain ⟨rfl, rfl⟩ := hcut
        go_upto_if 79 with fail
        go_cut [14] (fun b wc => b = .bool (tog qb (pvAt s.data.toList n) s[n]) ∧ w4 = wc)
        case first =>
          cases hh : decide (s[n] = 34 ∧ pvAt s.data.toList n ≠ 92) with
          | true =>
            have HT2 := Lib.hid (show tog qb (pvAt s.data.toList n) s[n] = !qb by unfold tog; rw [if_pos (of_decide_eq_true hh)])
            clear hh
            go_wp2_with fail
            go_meet
            case rel => exact ⟨congrArg Value.bool HT2.out.symm, rfl⟩
          | false =>
            have HT2 := Lib.hid (show tog qb (pvAt s.data.toList n) s[n] = qb by unfold tog; rw [if_neg (of_decide_eq_false hh)])
            clear hh
            go_wp2_with fail
            go_meet
            case rel => exact ⟨congrArg Value.bool HT2.out.symm, rfl⟩
        case rest =>
          obtain ⟨rfl, rfl⟩ := hcut
          clear E34
          generalize tog qb (pvAt s.data.toList n) s[n] = q2 at *
          go_upto_region 17 with fail
          have E91 := Lib.hid (byte_is s[n] 91 91 rfl)
          have E93 := Lib.hid (byte_is s[n] 93 93 rfl)
          have E123 := Lib.hid (byte_is s[n] 123 123 rfl)
          have E125 := Lib.hid (byte_is s[n] 125 125 rfl)
          have E44 := Lib.hid (byte_is s[n] 44 44 rfl)
          have E58 := Lib.hid (byte_is s[n] 58 58 rfl)
          generalize s[n] = c at *
          go_cut [110] (fun b wc => b = .bool (!q2 && isSg c) ∧ w4 = wc)
          case first =>
            cases q2 with
            | true =>
              go_wp2_with fail
              go_meet
              case rel => exact ⟨rfl, rfl⟩
            | false =>
              have HSG := Lib.hid (show isSg c = (((c.toNat : Int) == 91) || ((c.toNat : Int) == 93) || ((c.toNat : Int) == 123) || ((c.toNat : Int) == 125) || ((c.toNat : Int) == 44) || ((c.toNat : Int) == 58)) by
                rw [E91.out, E93.out, E123.out, E125.out, E44.out, E58.out]
                rfl)
              clear E91 E93 E123 E125 E44 E58
              cases h1 : ((c.toNat : Int) == 91) with
              | true =>
                have HX := Lib.hid (show true = isSg c by rw [HSG.out, h1]; rfl)
                go_wp2_with fail
                go_meet
                case rel => exact ⟨congrArg Value.bool HX.out, rfl⟩
              | false =>
                cases h2 : ((c.toNat : Int) == 93) with
                | true =>
                  have HX := Lib.hid (show true = isSg c by rw [HSG.out, h1, h2]; rfl)
                  go_wp2_with fail
                  go_meet
                  case rel => exact ⟨congrArg Value.bool HX.out, rfl⟩
                | false =>
                  cases h3 : ((c.toNat : Int) == 123) with
                  | true =>
                    have HX := Lib.hid (show true = isSg c by rw [HSG.out, h1, h2, h3]; rfl)
                    go_wp2_with fail
                    go_meet
                    case rel => exact ⟨congrArg Value.bool HX.out, rfl⟩
                  | false =>
                    cases h4 : ((c.toNat : Int) == 125) with
                    | true =>
                      have HX := Lib.hid (show true = isSg c by rw [HSG.out, h1, h2, h3, h4]; rfl)
                      go_wp2_with fail
                      go_meet
                      case rel => exact ⟨congrArg Value.bool HX.out, rfl⟩
                    | false =>
                      cases h5 : ((c.toNat : Int) == 44) with
                      | true =>
                        have HX := Lib.hid (show true = isSg c by rw [HSG.out, h1, h2, h3, h4, h5]; rfl)
                        go_wp2_with fail
                        go_meet
                        case rel => exact ⟨congrArg Value.bool HX.out, rfl⟩
                      | false =>
                        have HX := Lib.hid (show ((c.toNat : Int) == 58) = isSg c by rw [HSG.out, h1, h2, h3, h4, h5]; rfl)
                        go_wp2_with fail
                        go_meet
                        case rel => exact ⟨congrArg Value.bool HX.out, rfl⟩
          case rest =>
            obtain ⟨rfl, rfl⟩ := hcut
            clear E91 E93 E123 E125 E44 E58
            cases hh : (!q2 && isSg c) with
            | true =>
              have HX := Lib.hid (show BS.data.toList ++ TT = (S1 ++ BS).data.toList ++ brk BS.data.toList q2 (pvAt s.data.toList (n + 1)) (s.data.toList.drop (n + 1)) by
                have h1 : q2 = false ∧ isSg c = true := by simpa using hh
                rw [HN.out, if_pos h1, app_list, List.append_assoc])
              clear hh
              go_wp2_with fail
              go_roundg (s.size - (n + 1))
              case measure => omega
              case rel => exact ⟨n + 1, S1 ++ BS, q2, rfl, by omega, by go_num, rfl, rfl, rfl, HX.out⟩
            | false =>
              have HX := Lib.hid (show BS.data.toList ++ TT = S1.data.toList ++ brk BS.data.toList q2 (pvAt s.data.toList (n + 1)) (s.data.toList.drop (n + 1)) by
                have h1 : ¬ (q2 = false ∧ isSg c = true) := by
                  rintro ⟨h1, h2⟩
                  rw [h1, h2] at hh
                  cases hh
                rw [HN.out, if_neg h1, List.nil_append])
              clear hh
              go_wp2_with fail
              go_roundg (s.size - (n + 1))
              case measure => omega
              case rel => exact ⟨n + 1, S1, q2, rfl, by omega, by go_num, rfl, rfl, rfl, HX.out⟩
    · have hd : decide ((n : Int) < (s.size : Int)) = false := decide_eq_false (by omega)
      have HF := Lib.hid (show (S ++ BS).data.toList = BS.data.toList ++ (btx BS.data.toList 12 x ++ BS.data.toList) by
        have h1 := HS.out
        rw [List.drop_eq_nil_of_le (show s.data.toList.length ≤ n by show s.size ≤ n; omega)] at h1
        have h2 : TT = btx BS.data.toList 12 x := by rw [← HTT.out, HSL.out, HBR.out]
        rw [app_list, ← List.append_assoc, ← h2, h1]
        simp [brk])
      have RB : ∀ W, Calls Tryd.prog 8 #[.string (S ++ BS)] W fun e w' => Below W.heap.size W w' ∧ ∃ v, e = .returned (.tuple #[v, .int .i64 0]) ∧ RdD w' (fun b => W.heap.size ≤ b ∧ b < w'.heap.size) ((S ++ BS).size + 1) x v := fun W => read_val (by
        rw [HF.out]
        refine read_back HBL.out HBL.out x HC.out ?_
        rw [← HF.out, app_list, List.length_append]
        show S.size + BS.size ≤ _
        omega) W
      clear HF HTT HBR HS hTl
      have hSB : (S ++ BS).size ≤ 3402 := by rw [ByteArray.size_append]; omega
      go_upto_region 20 with ((go_at_call 8); (with_reducible refine (RB _).mono ?_); rintro e w6 ⟨b6, v6, rfl, hR6⟩; obtain ⟨an6, cn6, ap6, cp6, rfl⟩ := hR6.shape)
      have RX := hR6.toB (B := w6.heap.size) fun b hb => hb.2
      have b26 : Below V.heap.size V w6 := bd.trans (b6.mono bd.size)
      clear b6 hR6 RB bd
      obtain ⟨W6, hW6⟩ : ∃ W6, W6 = w6.alloc (.cells #[.int .i64 x.k, .string x.s, .slice an6 x.ns.length cn6, .slice ap6 x.ps.length cp6] 26) := ⟨_, rfl⟩
      rw [← hW6]
      have hs6 : W6.heap.size = w6.heap.size + 1 := by rw [hW6]; simp
      have b66 : Below w6.heap.size w6 W6 := by rw [hW6]; exact (Below.refl _ w6).alloc (Nat.le_refl _) _
      have bc : Below V.heap.size V W6 := b26.trans (b66.mono b26.size)
      have x0 : W6.cell? ⟨w6.heap.size, 0, none⟩ = some (.int .i64 x.k) := by rw [hW6]; go_simp
      have x1 : W6.cell? ⟨w6.heap.size, 1, none⟩ = some (.string x.s) := by rw [hW6]; go_simp
      have x2 : W6.cell? ⟨w6.heap.size, 2, none⟩ = some (.slice an6 x.ns.length cn6) := by rw [hW6]; go_simp
      have x3 : W6.cell? ⟨w6.heap.size, 3, none⟩ = some (.slice ap6 x.ps.length cp6) := by rw [hW6]; go_simp
      obtain ⟨g0, g1, g2, g3⟩ := F _ bc
      have SM := refsame_any W6.heap.size _ 6 x x _ _ W6 (Nat.le_refl _) ((RX.below b66).more (by omega)) ((HR.out.below bc).more bc.size)
      unfold SameIs at SM
      rw [eqB_true rfl] at SM
      have hVw6 : w1.heap.size < w6.heap.size := by have := b26.size; omega
      clear hW6 hs6 b66 RX b26 hd
      go_upto_region 22 with ((go_at_call 10); (with_reducible refine SM.mono ?_); rintro e w7 ⟨rfl, b7⟩)
      have bd : Below V.heap.size V w7 := bc.trans (b7.mono bc.size)
      clear SM x0 x1 x2 x3 g0 g1 g2 g3 b7 bc
      obtain ⟨g0, g1, g2, g3⟩ := F _ bd
      have BW := BV.trans (bd.mono BV.size)
      by_cases h78 : x.k = 7 ∨ x.k = 8
      · have hne : 0 < s.size := by
          obtain ⟨a, q, b, e, _, _⟩ := txt_ends h78
          have : s.size = (txt 12 x).length := by rw [← HSL.out]; rfl
          rw [this, e]
          simp
        have hp0 : 0 ≤ z % (s.size : Int) := Int.emod_nonneg _ (by omega)
        have hp1 : z % (s.size : Int) < s.size := Int.emod_lt_of_pos _ (by omega)
        obtain ⟨p, hp⟩ : ∃ p : Nat, z % (s.size : Int) = p := ⟨(z % (s.size : Int)).toNat, (Int.toNat_of_nonneg hp0).symm⟩
        have PL : ∀ W, Calls Tryd.prog 13 #[.int .i64 z, .int .i64 s.size] W fun e w' => e = .returned (.int .i64 (p : Int)) ∧ W = w' := fun W => by
          have := place_any z s.size W (by omega) (by omega)
          rwa [hp] at this
        rw [hp] at hp0 hp1
        have hps : p < s.size := by omega
        have sl := slice_to s p (by omega)
        have RC : ∀ W, Calls Tryd.prog 8 #[.string (s.extract 0 p)] W fun e w' => Below W.heap.size W w' ∧ e = .returned (.tuple #[.agg #[.int .i64 0, .string ⟨#[]⟩, .slice none 0 0, .slice none 0 0], .int .i64 2]) := fun W => read_err (c := 2) (by
          rw [ext_to, HSL.out]
          exact read_cut HC.out h78 (by have := HT.out.1; omega) (by rw [← HSL.out]; exact hps)) W
        have RD : ∀ W, Calls Tryd.prog 8 #[.string (s ++ s)] W fun e w' => Below W.heap.size W w' ∧ e = .returned (.tuple #[.agg #[.int .i64 0, .string ⟨#[]⟩, .slice none 0 0, .slice none 0 0], .int .i64 2]) := fun W => read_err (c := 2) (by
          rw [app_list, HSL.out]
          exact read_double HC.out h78 (by rw [List.length_append]; have := HT.out.1; omega)) W
        clear hp hp0 hp1
        rcases h78 with h7 | h8
        · have e7 : (x.k == 7) = true := by simpa using h7
          clear h7
          go_wp2_with (first | ((go_at_call 13); (with_reducible refine (PL _).mono ?_); rintro e w8 ⟨rfl, rfl⟩) | ((go_at_call 8); (first | ((with_reducible refine (RC _).mono ?_); rintro e w9 ⟨b9, rfl⟩; have BW9 := BW.trans (b9.mono BW.size)) | ((with_reducible refine (RD _).mono ?_); rintro e w10 ⟨b10, rfl⟩))) | ((go_at_call 7); (with_reducible refine (awake_true _).mono ?_); rintro e w11 ⟨rfl, b11⟩))
          go_ret
          have B9 := BW9.alloc BW9.size (.cells #[.int .i64 0, .string ⟨#[]⟩, .slice none 0 0, .slice none 0 0] 26)
          have B10 := B9.trans (b10.mono B9.size)
          have B11 := B10.alloc B10.size (.cells #[.int .i64 0, .string ⟨#[]⟩, .slice none 0 0, .slice none 0 0] 26)
          exact ⟨rfl, B11.trans (b11.mono B11.size)⟩
        · have e7 : (x.k == 7) = false := by rw [h8]; rfl
          have e8 : (x.k == 8) = true := by simpa using h8
          clear h8
          go_wp2_with (first | ((go_at_call 13); (with_reducible refine (PL _).mono ?_); rintro e w8 ⟨rfl, rfl⟩) | ((go_at_call 8); (first | ((with_reducible refine (RC _).mono ?_); rintro e w9 ⟨b9, rfl⟩; have BW9 := BW.trans (b9.mono BW.size)) | ((with_reducible refine (RD _).mono ?_); rintro e w10 ⟨b10, rfl⟩))) | ((go_at_call 7); (with_reducible refine (awake_true _).mono ?_); rintro e w11 ⟨rfl, b11⟩))
          go_ret
          have B9 := BW9.alloc BW9.size (.cells #[.int .i64 0, .string ⟨#[]⟩, .slice none 0 0, .slice none 0 0] 26)
          have B10 := B9.trans (b10.mono B9.size)
          have B11 := B10.alloc B10.size (.cells #[.int .i64 0, .string ⟨#[]⟩, .slice none 0 0, .slice none 0 0] 26)
          exact ⟨rfl, B11.trans (b11.mono B11.size)⟩
      · have e7 : (x.k == 7) = false := by simpa using fun e => h78 (.inl e)
        have e8 : (x.k == 8) = false := by simpa using fun e => h78 (.inr e)
        clear h78
        go_wp2_with ((go_at_call 7); (with_reducible refine (awake_true _).mono ?_); rintro e w11 ⟨rfl, b11⟩)
        go_ret
        exact ⟨rfl, BW.trans (b11.mono BW.size)⟩

theorem jreadBack_walk (a : Option Addr) (len cap : Nat) (zs : List Int) (z y : Int) (w : World) (hz : zs.length = len) (_hl : len ≤ maxLen) (hr : 0 < len → ∃ b off, a = some ⟨b, off, none⟩ ∧ ∀ i z, zs[i]? = some z → w.cell? ⟨b, off + i, none⟩ = some (.int .i64 z)) :
    Calls Tryd.prog 4 #[.slice a len cap, .int .i64 z, .int .i64 y] w (TrueBelow w) := by
  by_cases h : 40 < len
  · exact jreadBack_long a len cap z y w h
  subst hz
  exact jreadBack_short a cap zs z y w (by omega) (ints_at_of hr)

end Go.Proofs.YtbcenaljaoejkaaDoor
