/-
  Plain facts: the reader's answer is the page's: what stands behind a backslash, looked at ahead.
-/
import Derived.Test.YtakmkhkbeabgcaaDoorFour
namespace Go.Proofs.YtakmkhkbeabgcaaDoor
open Go.Lib

/-- Four digits of sixteen at the front. -/
def hexL : List UInt8 → Option Nat
  | a :: b :: c :: d :: _ => if 0 ≤ hexV a.toNat ∧ 0 ≤ hexV b.toNat ∧ 0 ≤ hexV c.toNat ∧ 0 ≤ hexV d.toNat then some ((((hexV a.toNat * 16 + hexV b.toNat) * 16 + hexV c.toNat) * 16 + hexV d.toNat).toNat) else none
  | _ => none

theorem hexL_four (a b c d : UInt8) (t : List UInt8) : hexL (a :: b :: c :: d :: t) = if 0 ≤ hexV a.toNat ∧ 0 ≤ hexV b.toNat ∧ 0 ≤ hexV c.toNat ∧ 0 ≤ hexV d.toNat then some ((((hexV a.toNat * 16 + hexV b.toNat) * 16 + hexV c.toNat) * 16 + hexV d.toNat).toNat) else none := rfl

/-- What stands behind a backslash; how many bytes it has. -/
def oneL : List UInt8 → Option (List UInt8 × Nat)
  | [] => none
  | c :: r =>
    if c.toNat = 117 then
      (hexL r).bind fun v =>
        if 55296 ≤ v ∧ v ≤ 56319 then
          (if (r.drop 4).take 2 = [92, 117] then
            (hexL (r.drop 6)).bind fun w => if 56320 ≤ w ∧ w ≤ 57343 then some (encodeRune (65536 + ((v : Int) - 55296) * 1024 + ((w : Int) - 56320)), 11) else none
          else none)
        else if 56320 ≤ v ∧ v ≤ 57343 then none
        else some (encodeRune v, 5)
    else if ptOf c.toNat = 0 then none else some ([UInt8.ofNat (ptOf c.toNat).toNat], 1)

theorem oneL_cons (c : UInt8) (r : List UInt8) : oneL (c :: r) = if c.toNat = 117 then
      (hexL r).bind fun v =>
        if 55296 ≤ v ∧ v ≤ 56319 then
          (if (r.drop 4).take 2 = [92, 117] then
            (hexL (r.drop 6)).bind fun w => if 56320 ≤ w ∧ w ≤ 57343 then some (encodeRune (65536 + ((v : Int) - 55296) * 1024 + ((w : Int) - 56320)), 11) else none
          else none)
        else if 56320 ≤ v ∧ v ≤ 57343 then none
        else some (encodeRune v, 5)
    else if ptOf c.toNat = 0 then none else some ([UInt8.ofNat (ptOf c.toNat).toNat], 1) := rfl

def unqN : Nat → List UInt8 → Option (List UInt8)
  | 0, _ => some []
  | _ + 1, [] => some []
  | n + 1, c :: t => if c.toNat = 92 then (oneL t).bind fun p => (unqN n (t.drop p.2)).map (p.1 ++ ·) else if c.toNat < 32 ∨ c.toNat = 34 then none else (unqN n t).map (c :: ·)
def unqS (l : List UInt8) : Option (List UInt8) := unqN l.length l

theorem unqN_nil (n : Nat) : unqN n [] = some [] := by cases n <;> rfl
theorem unqN_fuel : ∀ (n m : Nat) (l : List UInt8), l.length ≤ n → l.length ≤ m → unqN n l = unqN m l
  | 0, m, l, hn, _ => by
    have : l = [] := List.eq_nil_of_length_eq_zero (by omega)
    subst this
    rw [unqN_nil, unqN_nil]
  | n + 1, 0, l, _, hm => by
    have : l = [] := List.eq_nil_of_length_eq_zero (by omega)
    subst this
    rw [unqN_nil, unqN_nil]
  | n + 1, m + 1, l, hn, hm => by
    cases l with
    | nil => rfl
    | cons c t =>
      simp only [List.length_cons] at hn hm
      simp only [unqN]
      split
      · congr 1
        funext p
        rw [unqN_fuel n m (t.drop p.2) (by rw [List.length_drop]; omega) (by rw [List.length_drop]; omega)]
      · split
        · rfl
        · rw [unqN_fuel n m t (by omega) (by omega)]
theorem unqS_nil : unqS [] = some [] := rfl
theorem unqS_cons (c : UInt8) (t : List UInt8) : unqS (c :: t) = if c.toNat = 92 then (oneL t).bind fun p => (unqS (t.drop p.2)).map (p.1 ++ ·) else if c.toNat < 32 ∨ c.toNat = 34 then none else (unqS t).map (c :: ·) := by
  unfold unqS
  rw [List.length_cons]
  simp only [unqN]
  split
  · congr 1
    funext p
    rw [unqN_fuel t.length (t.drop p.2).length _ (by rw [List.length_drop]; omega) (Nat.le_refl _)]
  · rfl

theorem unqS_high (a t : List UInt8) (h : ∀ b ∈ a, 128 ≤ b.toNat) : unqS (a ++ t) = (unqS t).map (a ++ ·) := by
  induction a with
  | nil => simp
  | cons b r ih =>
    have hb := h b (by simp)
    rw [List.cons_append, unqS_cons, if_neg (by omega), if_neg (by omega), ih (fun x hx => h x (by simp [hx]))]
    cases unqS t with
    | none => rfl
    | some u => rfl

/-! ### the reader -/
theorem res_high (s : St) (l : List UInt8) (c : UInt8) (t : List UInt8) (e : l = c :: t) (h : 128 ≤ c.toNat) (hn : ∀ x : Int, 128 ≤ x → s.take x = none) : res s l = none := by
  subst e
  rw [res_step s _ (by simp)]
  have : 128 ≤ (decodeL (c :: t)).1 := by
    rw [decodeL_N]
    exact decodeN_high _ _ _ _ _ (by simp; omega)
  rw [hn _ (by omega)]
  rfl

theorem hexV_high (x : Int) (h : 128 ≤ x) : hexV x = -1 := by
  unfold hexV
  rw [if_neg (by omega), if_neg (by omega), if_neg (by omega)]
theorem ptOf_high (x : Int) (h : 128 ≤ x) : ptOf x = 0 := by
  unfold ptOf
  rw [if_neg (by omega), if_neg (by omega), if_neg (by omega), if_neg (by omega), if_neg (by omega), if_neg (by omega)]
theorem hexV_low (x : UInt8) (h : 0 ≤ hexV x.toNat) : x.toNat < 128 := by
  rcases Nat.lt_or_ge x.toNat 128 with h' | h'
  · exact h'
  · rw [hexV_high _ (by omega)] at h; omega

theorem fin_digits (o : List UInt8) (e : Bool) (d k f : Int) (hd : d ≠ 0) : res (St.mk o e d k f) [] = none := by
  rw [res_nil]
  unfold St.fin St.whole
  simp [hd]

/-- One digit that is none. -/
theorem take_nodig (o : List UInt8) (d k f c : Int) (hd : 0 < d) (hv : hexV c < 0) : (St.mk o false d k f).take c = none := by
  unfold St.take
  rw [if_pos (by exact hd)]
  unfold St.takeDigit
  rw [if_pos hv]

theorem res_dig (o : List UInt8) (d k f : Int) (hd : 0 < d) (x : UInt8) (t : List UInt8) (hv : hexV x.toNat < 0) : res (St.mk o false d k f) (x :: t) = none := by
  by_cases hx : x.toNat < 128
  · rw [res_cons _ _ _ hx, take_nodig _ _ _ _ _ hd hv]
    rfl
  · exact res_high _ _ x t rfl (by omega) (fun y hy => take_nodig _ _ _ _ _ hd (by rw [hexV_high y hy]; omega))

theorem res_hex (o : List UInt8) (f : Int) (l : List UInt8) : res (St.mk o false 4 0 f) l = (hexL l).bind fun v => (St.takeCode ⟨o, false, 0, (v : Int), f⟩).bind fun s' => res s' (l.drop 4) := by
  have stop : ∀ (d k : Int) (x : UInt8) (t : List UInt8), 0 < d → hexV x.toNat < 0 → res (St.mk o false d k f) (x :: t) = none := fun d k x t hd hv => res_dig o d k f hd x t hv
  have go : ∀ (d k : Int) (x : UInt8) (t : List UInt8), 1 < d → 0 ≤ hexV x.toNat → res (St.mk o false d k f) (x :: t) = res (St.mk o false (d - 1) (k * 16 + hexV x.toNat) f) t :=
    fun d k x t hd hv => res_go (hexV_low x hv) rfl (take_dig' o d k f _ hd hv)
  match l with
  | [] => rw [fin_digits _ _ _ _ _ (by omega)]; rfl
  | [a] =>
    by_cases ha : 0 ≤ hexV a.toNat
    · rw [go 4 0 a [] (by omega) ha, fin_digits _ _ _ _ _ (by omega)]; rfl
    · rw [stop 4 0 a [] (by omega) (by omega)]; rfl
  | [a, b] =>
    by_cases ha : 0 ≤ hexV a.toNat
    · rw [go 4 0 a [b] (by omega) ha]
      by_cases hb : 0 ≤ hexV b.toNat
      · rw [go _ _ b [] (by omega) hb, fin_digits _ _ _ _ _ (by omega)]; rfl
      · rw [stop _ _ b [] (by omega) (by omega)]; rfl
    · rw [stop 4 0 a [b] (by omega) (by omega)]; rfl
  | [a, b, c] =>
    by_cases ha : 0 ≤ hexV a.toNat
    · rw [go 4 0 a [b, c] (by omega) ha]
      by_cases hb : 0 ≤ hexV b.toNat
      · rw [go _ _ b [c] (by omega) hb]
        by_cases hc : 0 ≤ hexV c.toNat
        · rw [go _ _ c [] (by omega) hc, fin_digits _ _ _ _ _ (by omega)]; rfl
        · rw [stop _ _ c [] (by omega) (by omega)]; rfl
      · rw [stop _ _ b [c] (by omega) (by omega)]; rfl
    · rw [stop 4 0 a [b, c] (by omega) (by omega)]; rfl
  | a :: b :: c :: d :: t =>
    by_cases h : 0 ≤ hexV a.toNat ∧ 0 ≤ hexV b.toNat ∧ 0 ≤ hexV c.toNat ∧ 0 ≤ hexV d.toNat
    · have e : hexL (a :: b :: c :: d :: t) = some ((((hexV a.toNat * 16 + hexV b.toNat) * 16 + hexV c.toNat) * 16 + hexV d.toNat).toNat) := by
        rw [hexL_four, if_pos h]
      rw [e, Option.bind_some]
      have ec : (((((hexV a.toNat * 16 + hexV b.toNat) * 16 + hexV c.toNat) * 16 + hexV d.toNat).toNat : Nat) : Int) = ((hexV a.toNat * 16 + hexV b.toNat) * 16 + hexV c.toNat) * 16 + hexV d.toNat := by omega
      rw [ec]
      have r := res_four o t 0 f a b c d _ (hexV_low a h.1) (hexV_low b h.2.1) (hexV_low c h.2.2.1) (hexV_low d h.2.2.2) h.1 h.2.1 h.2.2.1 h.2.2.2 rfl
      rw [res_go (c := 92) (by decide) rfl (take_esc' o 0 f), res_go (c := 117) (by decide) rfl (take_u' o 0 f)] at r
      exact r
    · have e : hexL (a :: b :: c :: d :: t) = none := by rw [hexL_four, if_neg h]
      rw [e, Option.bind_none]
      by_cases ha : 0 ≤ hexV a.toNat
      · rw [go 4 0 a _ (by omega) ha]
        by_cases hb : 0 ≤ hexV b.toNat
        · rw [go _ _ b _ (by omega) hb]
          by_cases hc : 0 ≤ hexV c.toNat
          · rw [go _ _ c _ (by omega) hc]
            have e1 : (4 - 1 - 1 - 1 : Int) = 1 := by omega
            rw [e1]
            exact stop _ _ d t (by omega) (by omega)
          · rw [stop _ _ c _ (by omega) (by omega)]
        · rw [stop _ _ b _ (by omega) (by omega)]
      · rw [stop 4 0 a _ (by omega) (by omega)]

theorem hexL_lt (l : List UInt8) (v : Nat) (h : hexL l = some v) : v < 65536 ∧ 4 ≤ l.length := by
  match l, h with
  | [], h => exact absurd h (by simp [hexL])
  | [_], h => exact absurd h (by simp [hexL])
  | [_, _], h => exact absurd h (by simp [hexL])
  | [_, _, _], h => exact absurd h (by simp [hexL])
  | a :: b :: c :: d :: t, h =>
    rw [hexL_four] at h
    split at h
    · rename_i hh
      cases h
      have ra := hexV_range a.toNat
      have rb := hexV_range b.toNat
      have rc := hexV_range c.toNat
      have rd := hexV_range d.toNat
      exact ⟨by omega, by simp⟩
    · cases h

/-- A first half waits: only its second half may follow. -/
theorem res_first (o : List UInt8) (k f : Int) (hf : f ≠ 0) (l : List UInt8) : res (St.mk o false 0 k f) l = if l.take 2 = [92, 117] then (hexL (l.drop 2)).bind fun w => if 56320 ≤ w ∧ w ≤ 57343 then res (St.clean (o ++ encodeRune (65536 + (f - 55296) * 1024 + ((w : Int) - 56320))) w) (l.drop 6) else none else none := by
  have plain : ∀ x : Int, x ≠ 92 → (St.mk o false 0 k f).take x = none := by
    intro x hx
    unfold St.take
    rw [if_neg (by simp), if_neg (by simp), if_neg hx]
    split
    · rfl
    · unfold St.put
      rw [if_neg hf]
  have esc : ∀ x : Int, x ≠ 117 → (St.mk o true 0 k f).take x = none := by
    intro x hx
    unfold St.take
    rw [if_neg (by simp), if_pos rfl]
    unfold St.takeLetter
    rw [if_neg hx]
    split
    · rfl
    · unfold St.put
      rw [if_neg hf]
  match l with
  | [] =>
    rw [if_neg (by simp), res_nil]
    unfold St.fin St.whole
    simp [hf]
  | c :: t =>
    by_cases hc : c.toNat = 92
    · have hc' : c = 92 := UInt8.toNat_inj.1 hc
      subst hc'
      rw [res_go (c := 92) (by decide) rfl (take_esc' o k f)]
      match t with
      | [] =>
        rw [if_neg (by simp), res_nil]
        rfl
      | d :: r =>
        by_cases hd : d.toNat = 117
        · have hd' : d = 117 := UInt8.toNat_inj.1 hd
          subst hd'
          rw [res_go (c := 117) (by decide) rfl (take_u' o k f), res_hex, if_pos (show (92 :: 117 :: r : List UInt8).take 2 = [92, 117] from rfl)]
          show _ = (hexL r).bind _
          cases hh : hexL r with
          | none => rfl
          | some w =>
            rw [Option.bind_some, Option.bind_some]
            by_cases hw : 56320 ≤ w ∧ w ≤ 57343
            · rw [if_pos hw, code_join o w f (by simp [half2]; omega) hf, Option.bind_some]
              rfl
            · rw [if_neg hw]
              have : St.takeCode ⟨o, false, 0, (w : Int), f⟩ = none := by
                unfold St.takeCode
                have h2 : half2 (w : Int) = false := by simp [half2]; omega
                simp only [h2]
                rw [if_neg (by simp)]
                split
                · first | rfl | rw [if_neg hf]
                · unfold St.put
                  rw [if_neg hf]
              rw [this]
              rfl
        · rw [if_neg (by simp; intro e; exact hd (by rw [e]; rfl))]
          by_cases hda : d.toNat < 128
          · rw [res_cons _ _ _ hda, esc _ (by omega)]
            rfl
          · exact res_high _ _ d r rfl (by omega) (fun x hx => esc x (by omega))
    · rw [if_neg (by
        intro e
        have := congrArg List.head? e
        simp at this
        exact hc (by rw [this]; rfl))]
      by_cases hca : c.toNat < 128
      · rw [res_cons _ _ _ hca, plain _ (by omega)]
        rfl
      · exact res_high _ _ c t rfl (by omega) (fun x hx => plain x (by omega))

theorem decodeN_cut (m b0 b1 b2 b3 c1 c2 c3 : Nat) (h : decodeN m b0 b1 b2 b3 = (65533, 1)) (hc : ∀ (x : Nat), x = 34 → x / 64 ≠ 2) (e1 : 1 < m → b1 = c1) (e2 : 2 < m → b2 = c2) (e3 : 3 < m → b3 = c3) (g1 : m = 1 → c1 = 34) (g2 : m = 2 → c2 = 34) (g3 : m = 3 → c3 = 34) (hm : 1 ≤ m) (h0 : 128 ≤ b0) : decodeN (m + 1) b0 c1 c2 c3 = (65533, 1) := by
  unfold decodeN at h ⊢
  rw [if_neg (by omega)] at h ⊢
  by_cases k2 : b0 / 32 = 6 ∧ (1 < m + 1 ∧ c1 / 64 = 2)
  · have hm1 : 1 < m := by
      rcases Nat.lt_or_ge 1 m with h' | h'
      · exact h'
      · have : c1 = 34 := g1 (by omega)
        exact absurd k2.2.2 (hc c1 this)
    have := e1 hm1
    subst this
    rw [if_pos (by omega)] at h
    rw [if_pos k2]
    exact h
  · rw [if_neg k2]
    by_cases k3 : b0 / 16 = 14 ∧ (1 < m + 1 ∧ c1 / 64 = 2) ∧ (2 < m + 1 ∧ c2 / 64 = 2)
    · have hm2 : 2 < m := by
        rcases Nat.lt_or_ge 2 m with h' | h'
        · exact h'
        · have : c2 = 34 := g2 (by omega)
          exact absurd k3.2.2.2 (hc c2 this)
      have := e1 (by omega)
      have := e2 hm2
      subst_vars
      rw [if_neg (by omega), if_pos (by omega)] at h
      rw [if_pos k3]
      exact h
    · rw [if_neg k3]
      by_cases k4 : b0 / 8 = 30 ∧ (1 < m + 1 ∧ c1 / 64 = 2) ∧ (2 < m + 1 ∧ c2 / 64 = 2) ∧ (3 < m + 1 ∧ c3 / 64 = 2)
      · have hm3 : 3 < m := by
          rcases Nat.lt_or_ge 3 m with h' | h'
          · exact h'
          · have : c3 = 34 := g3 (by omega)
            exact absurd k4.2.2.2.2 (hc c3 this)
        have := e1 (by omega)
        have := e2 (by omega)
        have := e3 hm3
        subst_vars
        rw [if_neg (by omega), if_neg (by omega), if_pos (by omega)] at h
        rw [if_pos k4]
        exact h
      · rw [if_neg k4]

theorem getD_last (l : List UInt8) (x : UInt8) (k : Nat) (h : l.length = k) : (l ++ [x]).getD k 0 = x := by
  subst h
  simp [List.getD]

theorem bad_snoc (l : List UInt8) (hne : l ≠ []) (h : badAt l = true) : badAt (l ++ [34]) = true := by
  have hl : 0 < l.length := List.length_pos_iff.2 hne
  have hd : (decodeL l).1 = 65533 ∧ (decodeL l).2 = 1 := by simpa [badAt] using h
  have hd' : decodeL l = (65533, 1) := Prod.ext hd.1 hd.2
  rw [decodeL_N] at hd'
  apply bad_of_N
  rw [getD_app l [34] 0 hl, List.length_append]
  have h128 : 128 ≤ (l.getD 0 0).toNat := by
    rcases Nat.lt_or_ge (l.getD 0 0).toNat 128 with h' | h'
    · rw [decodeN_ascii _ _ _ _ _ h'] at hd'
      have := congrArg Prod.fst hd'
      simp only at this
      omega
    · exact h'
  refine decodeN_cut _ _ _ _ _ _ _ _ hd' (fun x hx => by subst hx; decide) ?_ ?_ ?_ ?_ ?_ ?_ hl h128
  · intro h1; rw [getD_app l [34] 1 h1]
  · intro h1; rw [getD_app l [34] 2 h1]
  · intro h1; rw [getD_app l [34] 3 h1]
  · intro h1; rw [getD_last l 34 1 h1]; rfl
  · intro h1; rw [getD_last l 34 2 h1]; rfl
  · intro h1; rw [getD_last l 34 3 h1]; rfl

theorem valid_wrong : ∀ (n : Nat) (l : List UInt8), l.length ≤ n → validD l = false → validD (l ++ [34]) = false
  | 0, l, hn, h => by
    have : l = [] := List.eq_nil_of_length_eq_zero (by omega)
    subst this
    cases h
  | n + 1, l, hn, h => by
    by_cases hne : l = []
    · subst hne; cases h
    · cases hb : badAt l with
      | true => exact validD_bad _ (by simp) (bad_snoc l hne hb)
      | false =>
        have hw := decodeL_width l
        have hle := decodeL_le l hne
        rw [validD_go l hne hb] at h
        rw [validD_go _ (by simp) (badAt_app l [34] hne hb), decodeL_app l [34] hne hb, List.drop_append_of_le_length hle]
        exact valid_wrong n _ (by rw [List.length_drop]; omega) h

theorem enc_low (n : Nat) (h : n < 128) : encodeRune (n : Int) = [UInt8.ofNat n] := by
  unfold encodeRune
  rw [encodeRuneZ_one (by omega) (by omega)]
  rfl

theorem ofNat_self (c : UInt8) : UInt8.ofNat c.toNat = c := by simp

/-- The reader says what the page says, looked at ahead. -/
theorem res_unqS : ∀ (n : Nat) (l o : List UInt8) (k : Int), l.length ≤ n → validD l = true → res (St.clean o k) l = (unqS l).map (o ++ ·)
  | 0, l, o, k, hn, _ => by
    have : l = [] := List.eq_nil_of_length_eq_zero (by omega)
    subst this
    rw [unqS_nil]
    simp [res_nil, St.fin, St.whole, St.clean]
  | n + 1, [], o, k, hn, _ => by
    rw [unqS_nil]
    simp [res_nil, St.fin, St.whole, St.clean]
  | n + 1, c :: t, o, k, hn, hv => by
    simp only [List.length_cons] at hn
    by_cases hca : c.toNat < 128
    · have hvt : validD t = true := by rw [← validD_cons c t hca]; exact hv
      rw [unqS_cons]
      by_cases h92 : c.toNat = 92
      · have hc' : c = 92 := UInt8.toNat_inj.1 h92
        subst hc'
        rw [if_pos (show (92 : UInt8).toNat = 92 from rfl), res_go (c := 92) (by decide) rfl (take_esc o k)]
        match t with
        | [] => rfl
        | d :: r =>
          simp only [List.length_cons] at hn
          by_cases hd : d.toNat = 117
          · have hd' : d = 117 := UInt8.toNat_inj.1 hd
            subst hd'
            have hvr : validD r = true := by rw [← validD_cons 117 r (by decide)]; exact hvt
            rw [res_go (c := 117) (by decide) rfl (take_u o k), res_hex]
            rw [oneL_cons, if_pos (show (117 : UInt8).toNat = 117 from rfl)]
            cases hh : hexL r with
            | none => rfl
            | some v =>
              have hlt := hexL_lt r v hh
              have hv4 : ∀ m, m ≤ 4 → validD (r.drop m) = true := by
                intro m hm
                match r, hh with
                | a :: b :: c :: d :: q, hh =>
                  rw [hexL_four] at hh
                  split at hh
                  · rename_i hx
                    have e := validD_ascii m (a :: b :: c :: d :: q) (by
                      intro y hy
                      have hy' : y ∈ [a, b, c, d] := by
                        have h4 : (a :: b :: c :: d :: q).take m <+: [a, b, c, d] := by
                          have : [a, b, c, d] = (a :: b :: c :: d :: q).take 4 := rfl
                          rw [this]
                          exact List.take_prefix_take_left hm
                        exact h4.subset hy
                      simp at hy'
                      rcases hy' with rfl | rfl | rfl | rfl
                      · exact hexV_low _ hx.1
                      · exact hexV_low _ hx.2.1
                      · exact hexV_low _ hx.2.2.1
                      · exact hexV_low _ hx.2.2.2)
                    rw [← e]
                    exact hvr
                  · cases hh
              simp only [Option.bind_some]
              by_cases h1 : 55296 ≤ v ∧ v ≤ 56319
              · rw [if_pos h1, code_first o v (by simp [half1]; omega) (by simp [half2]; omega), Option.bind_some, res_first o v v (by omega)]
                by_cases h2 : (r.drop 4).take 2 = [92, 117]
                · rw [if_pos h2, if_pos h2, List.drop_drop]
                  cases hg : hexL (r.drop (4 + 2)) with
                  | none => rfl
                  | some w =>
                    have hlw := hexL_lt _ w hg
                    rw [Option.bind_some, Option.bind_some]
                    by_cases h3 : 56320 ≤ w ∧ w ≤ 57343
                    · rw [if_pos h3, if_pos h3, Option.bind_some]
                      have hlen : (r.drop (4 + 6)).length ≤ n := by rw [List.length_drop]; omega
                      have hvd : validD (r.drop (4 + 6)) = true := by
                        have e1 : r.drop 4 = 92 :: 117 :: r.drop 6 := by
                          have := List.take_append_drop 2 (r.drop 4)
                          rw [h2, List.drop_drop] at this
                          exact this.symm
                        have v4 := hv4 4 (by omega)
                        rw [e1, validD_cons _ _ (by decide), validD_cons _ _ (by decide)] at v4
                        obtain ⟨a, b, c', d', q, e6⟩ : ∃ a b c' d' q, r.drop 6 = a :: b :: c' :: d' :: q := by
                          match hr6 : r.drop 6, hlw.2 with
                          | a :: b :: c' :: d' :: q, _ => exact ⟨a, b, c', d', q, rfl⟩
                          | [], h => simp at h
                          | [_], h => simp at h
                          | [_, _], h => simp at h
                          | [_, _, _], h => simp at h
                        have hg' : hexL (r.drop 6) = some w := hg
                        rw [e6, hexL_four] at hg'
                        split at hg'
                        · rename_i hx
                          rw [e6, validD_cons _ _ (hexV_low _ hx.1), validD_cons _ _ (hexV_low _ hx.2.1), validD_cons _ _ (hexV_low _ hx.2.2.1), validD_cons _ _ (hexV_low _ hx.2.2.2)] at v4
                          have : r.drop (4 + 6) = q := by
                            have := congrArg (List.drop 4) e6
                            rw [List.drop_drop] at this
                            exact this
                          rw [this]
                          exact v4
                        · cases hg'
                      rw [List.drop_drop, res_unqS n _ _ _ hlen hvd]
                      show _ = Option.map _ (Option.map _ (unqS ((117 :: r).drop 11)))
                      have : (117 :: r : List UInt8).drop 11 = r.drop (4 + 6) := rfl
                      rw [this]
                      cases unqS (r.drop (4 + 6)) with
                      | none => rfl
                      | some u => simp
                    · rw [if_neg h3, if_neg h3]
                      rfl
                · rw [if_neg h2, if_neg h2]
                  rfl
              · rw [if_neg h1]
                by_cases h2 : 56320 ≤ v ∧ v ≤ 57343
                · rw [if_pos h2, code_second o v (by simp [half2]; omega)]
                  rfl
                · rw [if_neg h2, code_plain o v (by simp [half1]; omega) (by simp [half2]; omega), Option.bind_some, Option.bind_some]
                  rw [res_unqS n (r.drop 4) _ _ (by rw [List.length_drop]; omega) (hv4 4 (by omega))]
                  show _ = Option.map _ (Option.map _ (unqS ((117 :: r).drop 5)))
                  have : (117 :: r : List UInt8).drop 5 = r.drop 4 := rfl
                  rw [this]
                  cases unqS (r.drop 4) with
                  | none => rfl
                  | some u => simp
          · rw [oneL_cons, if_neg hd]
            by_cases hp : ptOf d.toNat = 0
            · rw [if_pos hp]
              have no : ∀ x : Int, x ≠ 117 → ptOf x = 0 → (St.mk o true 0 k 0).take x = none := by
                intro x hx hx2
                unfold St.take
                rw [if_neg (by simp), if_pos rfl]
                unfold St.takeLetter
                rw [if_neg hx, if_pos hx2]
              by_cases hda : d.toNat < 128
              · rw [res_cons _ _ _ hda, no _ (by omega) hp]
                rfl
              · rw [res_high _ _ d r rfl (by omega) (fun x hx => no x (by omega) (ptOf_high x hx))]
                rfl
            · rw [if_neg hp, Option.bind_some]
              have hda : d.toNat < 128 := by
                rcases Nat.lt_or_ge d.toNat 128 with h' | h'
                · exact h'
                · exact absurd (ptOf_high _ (by omega)) hp
              have hpr := ptOf_range d.toNat
              have hvr : validD r = true := by rw [← validD_cons d r hda]; exact hvt
              rw [res_go hda rfl (take_pt o k _ (by omega) hp), res_unqS n r _ _ (by omega) hvr]
              have e : encodeRune (ptOf d.toNat) = [UInt8.ofNat (ptOf d.toNat).toNat] := by
                have := enc_low (ptOf d.toNat).toNat (by omega)
                rw [Int.toNat_of_nonneg hpr.1] at this
                exact this
              rw [e]
              show _ = Option.map _ (Option.map _ (unqS r))
              cases unqS r with
              | none => rfl
              | some u => simp
      · rw [if_neg h92]
        by_cases hx : c.toNat < 32 ∨ c.toNat = 34
        · rw [if_pos hx, res_cons _ _ _ hca]
          have : (St.clean o k).take c.toNat = none := by
            unfold St.take
            rw [if_neg (by simp [St.clean]), if_neg (by simp [St.clean]), if_neg (by omega), if_pos (by omega)]
          rw [this]
          rfl
        · rw [if_neg hx, res_go hca rfl (take_plain o k _ (by omega) (by omega)), res_unqS n t _ _ (by omega) hvt, enc_low c.toNat hca, ofNat_self]
          cases unqS t with
          | none => rfl
          | some u => simp
    · have hne : (c :: t : List UInt8) ≠ [] := by simp
      obtain ⟨hb, hv2⟩ := ok_head hne hv
      have hx : ¬ ((decodeL (c :: t)).1 = 65533 ∧ (decodeL (c :: t)).2 = 1) := by simpa [badAt] using hb
      have hh : 128 ≤ (decodeL (c :: t)).1 := by
        rw [decodeL_N]
        exact decodeN_high _ _ _ _ _ (by simp; omega)
      have hw := decodeL_width (c :: t)
      have hed := encode_decode (c :: t) hne hx
      rw [res_step _ _ hne, take_plain o k _ (by omega) (by omega), Option.bind_some, res_unqS n _ _ _ (by rw [List.length_drop, List.length_cons]; omega) hv2, hed]
      conv => rhs; rw [← List.take_append_drop (decodeL (c :: t)).2 (c :: t)]
      rw [unqS_high _ _ (by rw [← hed]; exact encodeRune_high (by omega))]
      cases unqS ((c :: t).drop (decodeL (c :: t)).2) with
      | none => rfl
      | some u => simp

/-- The page's answer to Unquote. -/
def unqB (l : List UInt8) : Option (List UInt8) := if 2 ≤ l.length ∧ l.head? = some 34 ∧ l.getLast? = some 34 ∧ validD l = true then unqS (innerB l) else none

theorem valid_inner (l : List UInt8) (h : 2 ≤ l.length ∧ l.head? = some 34 ∧ l.getLast? = some 34 ∧ validD l = true) : validD (innerB l) = true := by
  obtain ⟨h1, h2, h3, h4⟩ := h
  obtain ⟨m, e⟩ : ∃ m, l = 34 :: (m ++ [34]) := by
    cases l with
    | nil => simp at h1
    | cons a t =>
      simp at h2
      subst h2
      have ht : t ≠ [] := by intro e; subst e; simp at h1
      refine ⟨t.dropLast, ?_⟩
      rw [List.getLast?_cons] at h3
      have : t.getLast ht = 34 := by
        rw [List.getLast?_eq_some_getLast ht] at h3
        simpa using h3
      rw [← this, List.dropLast_concat_getLast ht]
  subst e
  rw [inner_of]
  rw [validD_cons _ _ (by decide)] at h4
  cases hm : validD m with
  | true => rfl
  | false =>
    -- what is wrong stays wrong with a sign behind it
    have : validD (m ++ [34]) = false := valid_wrong m.length m (Nat.le_refl _) hm
    rw [this] at h4
    cases h4

theorem unqP_B (l : List UInt8) : unqP l = unqB l := by
  unfold unqP unqB
  split
  · rename_i h
    have e := res_unqS (innerB l).length (innerB l) [] 0 (Nat.le_refl _) (valid_inner l h)
    have : St.new = St.clean [] 0 := rfl
    rw [this, e]
    cases unqS (innerB l) with
    | none => rfl
    | some u => rfl
  · rfl

end Go.Proofs.YtakmkhkbeabgcaaDoor
