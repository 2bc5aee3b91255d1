/-
  JreadBack: what is written is read, with blanks behind the signs or without.
-/
import Derived.Test.YtbcenaljaoejkaaDoorMJa
import Derived.Test.YtbcenaljaoejkaaDoorBack2
import Derived.Test.YtbcenaljaoejkaaDoorText
namespace Go.Proofs.YtbcenaljaoejkaaDoor
open Go.RowKit

/-! ### texts in quotes -/
theorem hexD_ne (n : Nat) (h : n < 16) : hexD n ≠ 34 ∧ hexD n ≠ 92 := by
  match n, h with
  | 0, _ | 1, _ | 2, _ | 3, _ | 4, _ | 5, _ | 6, _ | 7, _ | 8, _ | 9, _ | 10, _ | 11, _ | 12, _ | 13, _ | 14, _ | 15, _ => decide
  | n + 16, h => exact absurd h (by omega)
theorem qLen_plain {b : UInt8} (h1 : b ≠ 34) (h2 : b ≠ 92) (z : List UInt8) : qLen (b :: z) = 1 + qLen z := by rw [qLen_cons, if_neg h1, if_neg h2]
theorem qLen_esc (c : UInt8) (z : List UInt8) : qLen (92 :: c :: z) = 2 + qLen z := by rw [qLen_cons, if_neg (by decide), if_pos rfl]; rfl
theorem qLen_chunk (b : UInt8) (z : List UInt8) : qLen (escB b ++ z) = (escB b).length + qLen z := by
  unfold escB
  split
  · exact qLen_esc _ _
  · rename_i hl
    split
    · have h1 := hexD_ne (b.toNat / 16) (by have := b.toNat_lt; omega)
      have h2 := hexD_ne (b.toNat % 16) (by omega)
      show qLen (92 :: 117 :: 48 :: 48 :: hexD (b.toNat / 16) :: hexD (b.toNat % 16) :: z) = 6 + qLen z
      rw [qLen_esc, qLen_plain (by decide) (by decide), qLen_plain (by decide) (by decide), qLen_plain h1.1 h1.2, qLen_plain h2.1 h2.2]
      omega
    · refine qLen_plain ?_ ?_ z
      · rintro rfl; exact hl (by decide)
      · rintro rfl; exact hl (by decide)
theorem qLen_in : ∀ (l z : List UInt8), qLen (quoteIn l ++ 34 :: z) = (quoteIn l).length
  | [], z => by
    show qLen (34 :: z) = 0
    rw [qLen_cons, if_pos rfl]
  | b :: l, z => by
    have e : quoteIn (b :: l) = escB b ++ quoteIn l := rfl
    rw [e, List.append_assoc, qLen_chunk, qLen_in l z, List.length_append]
/-- A quoted text, and what stands behind it. -/
theorem qt_quote (l r : List UInt8) (hv : Lib.validD l = true) : qt (quoteB l ++ r) = some (l, r) := by
  have hq := unq_quote l hv
  have e : quoteB l = 34 :: (quoteIn l ++ [34]) := by unfold quoteB; rw [if_pos hv]
  have hl : qLen (List.drop 1 (quoteB l ++ r)) = (quoteIn l).length := by
    rw [e]
    show qLen ((quoteIn l ++ [34]) ++ r) = _
    rw [List.append_assoc]
    exact qLen_in l r
  have hz : (quoteB l).length = (quoteIn l).length + 2 := by rw [e]; simp
  unfold qt
  rw [hl, if_pos (by rw [List.length_append, hz]; omega), ← hz, List.take_left, hq, List.drop_left]
  rfl
theorem quote_hd (l r : List UInt8) (hv : Lib.validD l = true) : sk (quoteB l ++ r) = quoteB l ++ r ∧ hd (quoteB l ++ r) = 34 := by
  unfold quoteB
  rw [if_pos hv]
  exact ⟨rfl, rfl⟩

/-! ### blanks -/
def isBl (bl : List UInt8) : Prop := ∀ b ∈ bl, blankU b = true
theorem sk_bl {bl : List UInt8} (h : isBl bl) (z : List UInt8) : sk (bl ++ z) = sk z := by
  induction bl with
  | nil => rfl
  | cons b bl ih =>
    rw [List.cons_append, sk_cons, if_pos (h b (by simp))]
    exact ih fun c hc => h c (by simp [hc])
theorem pv_same {f dep : Nat} {d t : Bool} {a b : List UInt8} (h : sk a = sk b) : pv f dep d t a = pv f dep d t b := by rw [← pv_sk, h, pv_sk]
theorem listGo_same {f dep n : Nat} {xs : List JV} {d t : Bool} {a b : List UInt8} (h : sk a = sk b) : listGo (pv f dep) n a xs d t = listGo (pv f dep) n b xs d t := by rw [← listGo_sk, h, listGo_sk]
theorem objGo_same {V : Rdg} {n : Nat} {ns : List ByteArray} {xs : List JV} {d t : Bool} {a b : List UInt8} (h : sk a = sk b) : objGo V n a ns xs d t = objGo V n b ns xs d t := by rw [← objGo_sk, h, objGo_sk]

/-- Parts, with blanks behind the signs. -/
def bpts (bl : List UInt8) (f : JV → List UInt8) (ob : Bool) : Bool → List ByteArray → List JV → List UInt8
  | _, _, [] => []
  | fst, ns, p :: r => (if fst then [] else 44 :: bl) ++ ((if ob then quoteB (vbl (ns.headD ⟨#[]⟩)) ++ 58 :: bl else []) ++ (f p ++ bpts bl f ob false ns.tail r))
def btx (bl : List UInt8) : Nat → JV → List UInt8
  | 0, _ => []
  | m + 1, x => if x.k = 1 then nullL else if x.k = 5 then quoteB (vbl x.s) else if x.k = 7 then 91 :: (bl ++ (bpts bl (btx bl m) false true x.ns x.ps ++ 93 :: bl)) else if x.k = 8 then 123 :: (bl ++ (bpts bl (btx bl m) true true x.ns x.ps ++ 125 :: bl)) else vbl x.s

theorem bpts_nil (f g : JV → List UInt8) (h : ∀ x, f x = g x) (ob : Bool) : ∀ (fst : Bool) (ns : List ByteArray) (ps : List JV), bpts [] f ob fst ns ps = pts g ob fst ns ps
  | _, _, [] => rfl
  | fst, ns, p :: r => by
    unfold bpts pts
    rw [h p, bpts_nil f g h ob false ns.tail r]
theorem btx_nil : ∀ (n : Nat) (x : JV), btx [] n x = txt n x
  | 0, _ => rfl
  | n + 1, x => by
    unfold btx txt
    rw [bpts_nil (btx [] n) (txt n) (btx_nil n), bpts_nil (btx [] n) (txt n) (btx_nil n)]
    rfl

/-- What may stand behind a value: no sign that a number may have. -/
def After (r : List UInt8) : Prop := ∀ b, r.head? = some b → ¬ isNS b

/-- Every value is read as itself, whatever stands behind it. -/
def Back (bl : List UInt8) (n : Nat) (V : Rdg) (x : JV) : Prop := ∀ (t : Bool) (r : List UInt8), After r → ∃ r', V false t (btx bl n x ++ r) = some (x, r', false, t) ∧ sk r' = sk r

theorem back_list {bl : List UInt8} (hbl : isBl bl) {n f dep : Nat} : ∀ (ps : List JV) (p : JV) (xs : List JV) (ns : List ByteArray) (k : Nat) (t : Bool) (r : List UInt8), (∀ q ∈ p :: ps, Back bl n (pv f dep) q) → ps.length < k →
    listGo (pv f dep) k (btx bl n p ++ (bpts bl (btx bl n) false false ns ps ++ 93 :: (bl ++ r))) xs false t = some (.mk 7 e0 [] (xs ++ p :: ps), bl ++ r, false, t)
  | [], p, xs, ns, k, t, r, hb, hk => by
    obtain ⟨k, rfl⟩ : ∃ k', k = k' + 1 := ⟨k - 1, by omega⟩
    obtain ⟨r1, h1, h2⟩ := hb p (by simp) t (93 :: (bl ++ r)) (fun b hb => by simp at hb; subst hb; unfold isNS; decide)
    have e : bpts bl (btx bl n) false false ns [] ++ 93 :: (bl ++ r) = 93 :: (bl ++ r) := rfl
    have e2 : sk (93 :: (bl ++ r)) = 93 :: (bl ++ r) := rfl
    rw [e, listGo, h1]
    show (if hd (sk r1) = 93 then _ else _) = _
    rw [h2, e2, if_pos (show hd (93 :: (bl ++ r)) = 93 from rfl)]
    rfl
  | p2 :: ps, p, xs, ns, k, t, r, hb, hk => by
    have hlen : ps.length + 1 < k := hk
    obtain ⟨k, rfl⟩ : ∃ k', k = k' + 1 := ⟨k - 1, by omega⟩
    have e : bpts bl (btx bl n) false false ns (p2 :: ps) ++ 93 :: (bl ++ r) = 44 :: (bl ++ (btx bl n p2 ++ (bpts bl (btx bl n) false false ns.tail ps ++ 93 :: (bl ++ r)))) := by
      rw [bpts]
      simp
    obtain ⟨r1, h1, h2⟩ := hb p (by simp) t (44 :: (bl ++ (btx bl n p2 ++ (bpts bl (btx bl n) false false ns.tail ps ++ 93 :: (bl ++ r))))) (fun b hb => by simp at hb; subst hb; unfold isNS; decide)
    have e2 : ∀ z, sk (44 :: z) = 44 :: z := fun _ => rfl
    rw [e, listGo, h1]
    show (if hd (sk r1) = 93 then _ else if hd (sk r1) = 44 then _ else _) = _
    rw [h2, e2, if_neg (by show ¬ (44 : UInt8) = 93; decide), if_pos (by rfl)]
    show listGo (pv f dep) k (bl ++ _) _ _ _ = _
    rw [listGo_same (sk_bl hbl _), back_list hbl ps p2 (xs ++ [p]) ns.tail k t r (fun q hq => hb q (by simp at hq ⊢; exact .inr hq)) (by omega)]
    simp

/-- Names that stand behind others. -/
theorem nmGo_cons {seen : List (List UInt8)} {x : List UInt8} {l : List (List UInt8)} (h : nmGo seen (x :: l) = true) : x ∉ seen ∧ Lib.validD x = true ∧ nmGo (seen ++ [x]) l = true := by
  unfold nmGo at h
  simp only [Bool.and_eq_true, Bool.not_eq_true', decide_eq_false_iff_not] at h
  exact ⟨h.1.1, h.1.2, h.2⟩
theorem ofL_vbl (n : ByteArray) : ofL (vbl n) = n := of_list n

theorem back_obj {bl : List UInt8} (hbl : isBl bl) {n f dep : Nat} : ∀ (ps : List JV) (p : JV) (nm : ByteArray) (ns : List ByteArray) (ms : List ByteArray) (xs : List JV) (k : Nat) (t : Bool) (r : List UInt8), (∀ q ∈ p :: ps, Back bl n (pv f dep) q) → ps.length < k → ns.length = ps.length → nmGo (ms.map vbl) ((nm :: ns).map vbl) = true →
    objGo (pv f dep) k (quoteB (vbl nm) ++ 58 :: (bl ++ (btx bl n p ++ (bpts bl (btx bl n) true false ns ps ++ 125 :: (bl ++ r))))) ms xs false t = some (.mk 8 e0 (ms ++ nm :: ns) (xs ++ p :: ps), bl ++ r, false, t)
  | [], p, nm, ns, ms, xs, k, t, r, hb, hk, hl, hg => by
    obtain ⟨k, rfl⟩ : ∃ k', k = k' + 1 := ⟨k - 1, by omega⟩
    obtain rfl : ns = [] := List.eq_nil_of_length_eq_zero hl
    obtain ⟨g1, g2, _⟩ := nmGo_cons hg
    have hc : (ms.map vbl).contains (vbl nm) = false := by rw [Bool.eq_false_iff]; intro h; exact g1 (List.contains_iff_mem.1 h)
    obtain ⟨r1, h1, h2⟩ := hb p (by simp) t (125 :: (bl ++ r)) (fun b hb => by simp at hb; subst hb; unfold isNS; decide)
    obtain ⟨q1, q2⟩ := quote_hd (vbl nm) (58 :: (bl ++ (btx bl n p ++ (bpts bl (btx bl n) true false [] [] ++ 125 :: (bl ++ r))))) g2
    have e : bpts bl (btx bl n) true false [] [] ++ 125 :: (bl ++ r) = 125 :: (bl ++ r) := rfl
    have e2 : sk (125 :: (bl ++ r)) = 125 :: (bl ++ r) := rfl
    have e3 : ∀ z, sk (58 :: z) = 58 :: z := fun _ => rfl
    rw [objGo, q1, if_pos q2, qt_quote _ _ g2]
    show (if hd (sk (58 :: _)) = 58 then _ else _) = _
    rw [e3, if_pos (by rfl), hc, Bool.or_false]
    show (match pv f dep false t (bl ++ _) with | none => none | some (x, r2, d1, t1) => _) = _
    rw [pv_same (sk_bl hbl _), e, h1]
    show (if hd (sk r1) = 125 then _ else _) = _
    rw [h2, e2, if_pos (by rfl), ofL_vbl]
    rfl
  | p2 :: ps, p, nm, ns, ms, xs, k, t, r, hb, hk, hl, hg => by
    have hlen : ps.length + 1 < k := hk
    obtain ⟨k, rfl⟩ : ∃ k', k = k' + 1 := ⟨k - 1, by omega⟩
    obtain ⟨nm2, ns, rfl⟩ : ∃ a b, ns = a :: b := by
      cases ns with
      | nil => cases hl
      | cons a b => exact ⟨a, b, rfl⟩
    obtain ⟨g1, g2, g3⟩ := nmGo_cons hg
    have hc : (ms.map vbl).contains (vbl nm) = false := by rw [Bool.eq_false_iff]; intro h; exact g1 (List.contains_iff_mem.1 h)
    have e : bpts bl (btx bl n) true false (nm2 :: ns) (p2 :: ps) ++ 125 :: (bl ++ r) = 44 :: (bl ++ (quoteB (vbl nm2) ++ 58 :: (bl ++ (btx bl n p2 ++ (bpts bl (btx bl n) true false ns ps ++ 125 :: (bl ++ r)))))) := by
      rw [bpts]
      simp
    obtain ⟨r1, h1, h2⟩ := hb p (by simp) t (44 :: (bl ++ (quoteB (vbl nm2) ++ 58 :: (bl ++ (btx bl n p2 ++ (bpts bl (btx bl n) true false ns ps ++ 125 :: (bl ++ r))))))) (fun b hb => by simp at hb; subst hb; unfold isNS; decide)
    obtain ⟨q1, q2⟩ := quote_hd (vbl nm) (58 :: (bl ++ (btx bl n p ++ (bpts bl (btx bl n) true false (nm2 :: ns) (p2 :: ps) ++ 125 :: (bl ++ r))))) g2
    have e2 : ∀ z, sk (44 :: z) = 44 :: z := fun _ => rfl
    have e3 : ∀ z, sk (58 :: z) = 58 :: z := fun _ => rfl
    rw [objGo, q1, if_pos q2, qt_quote _ _ g2]
    show (if hd (sk (58 :: _)) = 58 then _ else _) = _
    rw [e3, if_pos (by rfl), hc, Bool.or_false]
    show (match pv f dep false t (bl ++ _) with | none => none | some (x, r2, d1, t1) => _) = _
    rw [pv_same (sk_bl hbl _), e, h1]
    show (if hd (sk r1) = 125 then _ else if hd (sk r1) = 44 then _ else _) = _
    rw [h2, e2, if_neg (by show ¬ (44 : UInt8) = 125; decide), if_pos (by rfl)]
    show objGo (pv f dep) k (bl ++ _) _ _ _ _ = _
    rw [objGo_same (sk_bl hbl _), ofL_vbl, back_obj hbl ps p2 nm2 ns (ms ++ [nm]) (xs ++ [p]) k t r (fun q hq => hb q (by simp at hq ⊢; exact .inr hq)) (by omega) (by simpa using hl) (by rw [List.map_append]; exact g3)]
    simp

end Go.Proofs.YtbcenaljaoejkaaDoor
