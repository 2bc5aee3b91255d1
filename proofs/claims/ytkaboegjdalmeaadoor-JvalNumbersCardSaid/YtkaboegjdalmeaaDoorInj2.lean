/-
  Unlike values have unlike texts.
-/
import Derived.Test.YtkaboegjdalmeaaDoorInj
namespace Go.Proofs.YtkaboegjdalmeaaDoor
open Go.RowKit

theorem nmGo_valid : ∀ (l seen : List (List UInt8)), nmGo seen l = true → ∀ n ∈ l, Lib.validD n = true
  | [], _, _, _, h => by cases h
  | a :: t, seen, h, n, hn => by
    unfold nmGo at h
    simp only [Bool.and_eq_true] at h
    rcases List.mem_cons.1 hn with e | e
    · subst e; exact h.1.2
    · exact nmGo_valid t _ h.2 n e
theorem nm_valids {ns : List ByteArray} (h : nmOk ns = true) : ∀ n ∈ ns, Lib.validD (vbl n) = true := fun n hn => nmGo_valid _ _ h _ (List.mem_map.2 ⟨n, hn, rfl⟩)

theorem stop_pts (f : JV → List UInt8) (ob : Bool) (ns : List ByteArray) (ps : List JV) (c : UInt8) (hc : c = 93 ∨ c = 125) (r : List UInt8) : stopB (pts f ob false ns ps ++ c :: r) = true := by
  cases ps with
  | nil => rcases hc with rfl | rfl <;> rfl
  | cons p q => unfold pts; rfl

theorem pts_list (f : JV → List UInt8) (P : JV → Prop) (hf : ∀ x, P x → ∃ a t, f x = a :: t ∧ a ≠ 44 ∧ a ≠ 93 ∧ a ≠ 125) (ih : ∀ x y r r', P x → P y → stopB r = true → stopB r' = true → f x ++ r = f y ++ r' → x = y ∧ r = r') :
    ∀ (ps qs : List JV) (fst : Bool) (r r' : List UInt8), (∀ p ∈ ps, P p) → (∀ p ∈ qs, P p) → pts f false fst [] ps ++ 93 :: r = pts f false fst [] qs ++ 93 :: r' → ps = qs ∧ r = r'
  | [], [], _, r, r', _, _, e => ⟨rfl, by simpa [pts] using e⟩
  | [], q :: qs, fst, r, r', _, hq, e => by
    exfalso
    obtain ⟨a, t, ea, h1, h2, _⟩ := hf q (hq q (by simp))
    unfold pts at e
    rw [ea] at e
    cases fst <;> simp at e
    exact h2 e.1.symm
  | p :: ps, [], fst, r, r', hp, _, e => by
    exfalso
    obtain ⟨a, t, ea, h1, h2, _⟩ := hf p (hp p (by simp))
    unfold pts at e
    rw [ea] at e
    cases fst <;> simp at e
    exact h2 e.1
  | p :: ps, q :: qs, fst, r, r', hp, hq, e => by
    have e' : f p ++ (pts f false false [] ps ++ 93 :: r) = f q ++ (pts f false false [] qs ++ 93 :: r') := by
      unfold pts at e
      cases fst <;> simpa using e
    obtain ⟨e1, e2⟩ := ih p q _ _ (hp p (by simp)) (hq q (by simp)) (stop_pts f false [] ps 93 (.inl rfl) r) (stop_pts f false [] qs 93 (.inl rfl) r') e'
    obtain ⟨e3, e4⟩ := pts_list f P hf ih ps qs false r r' (fun x hx => hp x (by simp [hx])) (fun x hx => hq x (by simp [hx])) e2
    exact ⟨by rw [e1, e3], e4⟩

theorem quote_head {l : List UInt8} (h : Lib.validD l = true) : ∃ t, quoteB l = 34 :: t := by
  unfold quoteB
  rw [if_pos h]
  exact ⟨_, rfl⟩

theorem pts_obj (f : JV → List UInt8) (P : JV → Prop) (ih : ∀ x y r r', P x → P y → stopB r = true → stopB r' = true → f x ++ r = f y ++ r' → x = y ∧ r = r') :
    ∀ (ps qs : List JV) (ns ms : List ByteArray) (fst : Bool) (r r' : List UInt8), ns.length = ps.length → ms.length = qs.length → (∀ n ∈ ns, Lib.validD (vbl n) = true) → (∀ n ∈ ms, Lib.validD (vbl n) = true) → (∀ p ∈ ps, P p) → (∀ p ∈ qs, P p) →
      pts f true fst ns ps ++ 125 :: r = pts f true fst ms qs ++ 125 :: r' → ns = ms ∧ ps = qs ∧ r = r'
  | [], [], [], [], _, r, r', _, _, _, _, _, _, e => ⟨rfl, rfl, by simpa [pts] using e⟩
  | [], q :: qs, [], m :: ms, fst, r, r', _, _, _, hm, _, _, e => by
    exfalso
    obtain ⟨t, et⟩ := quote_head (hm m (by simp))
    unfold pts at e
    simp only [List.headD_cons] at e
    rw [et] at e
    cases fst <;> simp at e
  | p :: ps, [], n :: ns, [], fst, r, r', _, _, hn, _, _, _, e => by
    exfalso
    obtain ⟨t, et⟩ := quote_head (hn n (by simp))
    unfold pts at e
    simp only [List.headD_cons] at e
    rw [et] at e
    cases fst <;> simp at e
  | p :: ps, q :: qs, n :: ns, m :: ms, fst, r, r', hl, hl', hn, hm, hp, hq, e => by
    have e' : quoteB (vbl n) ++ (58 :: (f p ++ (pts f true false ns ps ++ 125 :: r))) = quoteB (vbl m) ++ (58 :: (f q ++ (pts f true false ms qs ++ 125 :: r'))) := by
      unfold pts at e
      cases fst <;> simpa using e
    obtain ⟨e1, e2⟩ := quoteB_cut (hn n (by simp)) (hm m (by simp)) e'
    injection e2 with _ e2
    obtain ⟨e3, e4⟩ := ih p q _ _ (hp p (by simp)) (hq q (by simp)) (stop_pts f true ns ps 125 (.inr rfl) r) (stop_pts f true ms qs 125 (.inr rfl) r') e2
    obtain ⟨e5, e6, e7⟩ := pts_obj f P ih ps qs ns ms false r r' (by simpa using hl) (by simpa using hl') (fun x hx => hn x (by simp [hx])) (fun x hx => hm x (by simp [hx])) (fun x hx => hp x (by simp [hx])) (fun x hx => hq x (by simp [hx])) e4
    exact ⟨by rw [vbl_inj e1, e5], by rw [e3, e6], e7⟩
  | [], _, _ :: _, _, _, _, _, hl, _, _, _, _, _, _ => by cases hl
  | _ :: _, _, [], _, _, _, _, hl, _, _, _, _, _, _ => by cases hl
  | _, [], _, _ :: _, _, _, _, _, hl, _, _, _, _, _ => by cases hl
  | _, _ :: _, _, [], _, _, _, _, hl, _, _, _, _, _ => by cases hl

theorem jv_eq {x y : JV} (h1 : x.k = y.k) (h2 : x.s = y.s) (h3 : x.ns = y.ns) (h4 : x.ps = y.ps) : x = y := by
  cases x
  cases y
  simp only [JV.k, JV.s, JV.ns, JV.ps] at h1 h2 h3 h4
  rw [h1, h2, h3, h4]

theorem txt_cut : ∀ (d : Nat) (x y : JV) (r r' : List UInt8), chkAt d x = true → chkAt d y = true → stopB r = true → stopB r' = true → txt d x ++ r = txt d y ++ r' → x = y ∧ r = r'
  | 0, _, _, _, _, h, _, _, _, _ => by cases h
  | d + 1, x, y, r, r', hx, hy, hr, hr', e => by
    obtain ⟨a, t, ea, ca, ka⟩ := head_cls hx
    obtain ⟨b, u, eb, cb, kb⟩ := head_cls hy
    have hab : a = b := by
      rw [ea, eb] at e
      simp only [List.cons_append, List.cons.injEq] at e
      exact e.1
    subst hab
    have hk : (if x.k = 4 then 3 else x.k) = (if y.k = 4 then 3 else y.k) := ca.symm.trans cb
    clear ea eb ca cb
    have hxs : (selfB x && x.ps.all (chkAt d)) = true := hx
    have hys : (selfB y && y.ps.all (chkAt d)) = true := hy
    rw [Bool.and_eq_true] at hxs hys
    have hxp : ∀ p ∈ x.ps, chkAt d p = true := List.all_eq_true.1 hxs.2
    have hyp : ∀ p ∈ y.ps, chkAt d p = true := List.all_eq_true.1 hys.2
    by_cases h7 : x.k = 7
    · have k7 : y.k = 7 := by rw [h7, if_neg (by decide)] at hk; split at hk <;> omega
      rw [txt_list h7, txt_list k7] at e
      have s1 := hxs.1
      have s2 := hys.1
      rw [self_list h7, Bool.and_eq_true] at s1
      rw [self_list k7, Bool.and_eq_true] at s2
      have n1 := List.isEmpty_iff.1 s1.2
      have n2 := List.isEmpty_iff.1 s2.2
      rw [n1, n2] at e
      obtain ⟨e1, e2⟩ := pts_list (txt d) (fun x => chkAt d x = true) (fun x h => head_ok h) (txt_cut d) x.ps y.ps true r r' hxp hyp (by simpa using e)
      exact ⟨jv_eq (by rw [h7, k7]) (vbl_inj (by rw [List.isEmpty_iff.1 s1.1, List.isEmpty_iff.1 s2.1])) (by rw [n1, n2]) e1, e2⟩
    by_cases h8 : x.k = 8
    · have k8 : y.k = 8 := by rw [h8, if_neg (by decide)] at hk; split at hk <;> omega
      rw [txt_obj h8, txt_obj k8] at e
      have s1 := hxs.1
      have s2 := hys.1
      rw [self_obj h8, Bool.and_eq_true, Bool.and_eq_true] at s1
      rw [self_obj k8, Bool.and_eq_true, Bool.and_eq_true] at s2
      obtain ⟨e0, e1, e2⟩ := pts_obj (txt d) (fun x => chkAt d x = true) (txt_cut d) x.ps y.ps x.ns y.ns true r r' (by simpa using s1.1.2) (by simpa using s2.1.2) (nm_valids s1.2) (nm_valids s2.2) hxp hyp (by simpa using e)
      exact ⟨jv_eq (by rw [h8, k8]) (vbl_inj (by rw [List.isEmpty_iff.1 s1.1.1, List.isEmpty_iff.1 s2.1.1])) e0 e1, e2⟩
    have h7' : y.k ≠ 7 := fun h => by
      have hh : (if y.k = 4 then (3 : Int) else y.k) = 7 := by rw [h]; rfl
      rw [hh] at hk
      split at hk <;> omega
    have h8' : y.k ≠ 8 := fun h => by
      have hh : (if y.k = 4 then (3 : Int) else y.k) = 8 := by rw [h]; rfl
      rw [hh] at hk
      split at hk <;> omega
    obtain ⟨x1, x2, x3⟩ := leaf_parts h7 h8 hx
    obtain ⟨y1, y2, y3⟩ := leaf_parts h7' h8' hy
    have fin : x.k = y.k → x.s = y.s → x = y := fun h1 h2 => jv_eq h1 h2 (by rw [x1, y1]) (by rw [x2, y2])
    have numb : numOk (vbl x.s) = true → numOk (vbl y.s) = true → x.k ≠ 1 → x.k ≠ 5 → y.k ≠ 1 → y.k ≠ 5 → vbl x.s = vbl y.s ∧ r = r' := fun n1 n2 a1 a5 b1 b5 => by
      rw [txt_leaf a1 a5 h7 h8, txt_leaf b1 b5 h7' h8'] at e
      exact run_cut _ _ r r' (num_all n1) (num_all n2) hr hr' e
    rcases leaf_kind x3 with ⟨k, o⟩ | ⟨k, o⟩ | ⟨k, o, ow⟩ | ⟨k, o, ow⟩ | ⟨k, o⟩ <;> rcases leaf_kind y3 with ⟨k', o'⟩ | ⟨k', o'⟩ | ⟨k', o', ow'⟩ | ⟨k', o', ow'⟩ | ⟨k', o'⟩ <;> rw [k, k'] at hk <;> first
      | (exfalso; revert hk; decide)
      | skip
    · rw [txt_null k, txt_null k'] at e
      exact ⟨fin (by rw [k, k']) (vbl_inj (by rw [o, o'])), by simpa [nullL] using e⟩
    · rw [txt_leaf (by omega) (by omega) h7 h8, txt_leaf (by omega) (by omega) h7' h8'] at e
      rcases o with o | o <;> rcases o' with o' | o' <;> rw [o, o'] at e <;> simp at e
      · exact ⟨fin (by rw [k, k']) (vbl_inj (by rw [o, o'])), e⟩
      · exact ⟨fin (by rw [k, k']) (vbl_inj (by rw [o, o'])), e⟩
    · obtain ⟨e1, e2⟩ := numb o o' (by omega) (by omega) (by omega) (by omega)
      exact ⟨fin (by rw [k, k']) (vbl_inj e1), e2⟩
    · obtain ⟨e1, _⟩ := numb o o' (by omega) (by omega) (by omega) (by omega)
      rw [e1, ow'] at ow
      cases ow
    · obtain ⟨e1, _⟩ := numb o o' (by omega) (by omega) (by omega) (by omega)
      rw [e1, ow'] at ow
      cases ow
    · obtain ⟨e1, e2⟩ := numb o o' (by omega) (by omega) (by omega) (by omega)
      exact ⟨fin (by rw [k, k']) (vbl_inj e1), e2⟩
    · rw [txt_str k, txt_str k'] at e
      obtain ⟨e1, e2⟩ := quoteB_cut o o' e
      exact ⟨fin (by rw [k, k']) (vbl_inj e1), e2⟩

theorem txt_inj {x y : JV} (hx : chkAt 12 x = true) (hy : chkAt 12 y = true) (e : txt 12 x = txt 12 y) : x = y :=
  (txt_cut 12 x y [] [] hx hy rfl rfl (by rw [e])).1

end Go.Proofs.YtkaboegjdalmeaaDoor
