/-
  Plain facts on lines, by numbers: what Block makes of them.
-/
import Derived.Test.YtaafnkhemklpeaaBlock2
namespace Go.Proofs.Ytaafnkhemklpeaa

/-- No end of a line in it. -/
def clean (a : List UInt8) : Prop := ∀ c ∈ a, c ≠ 10 ∧ c ≠ 13

theorem lines_clean (a cur : List UInt8) (h : clean a) : ∀ t, linesG cur false (a ++ t) = linesG (cur ++ a) false t := by
  induction a generalizing cur with
  | nil => intro t; simp
  | cons c r ih =>
    intro t
    have hc := h c (by simp)
    have h10 : (c == 10) = false := beq_eq_false_iff_ne.2 hc.1
    have h13 : (c == 13) = false := beq_eq_false_iff_ne.2 hc.2
    rw [List.cons_append]
    simp only [linesG, h10, h13]
    simp only [Bool.false_and, Bool.or_self, Bool.false_eq_true, if_false]
    rw [ih (cur ++ [c]) (fun x hx => h x (by simp [hx]))]
    simp

theorem beh_no (cur t : List UInt8) (h : t.head? ≠ some 10) : linesG cur true t = linesG cur false t := by
  cases t with
  | nil => rfl
  | cons c r =>
    have hc : (c == 10) = false := by
      rw [beq_eq_false_iff_ne]; intro e; subst e; exact h rfl
    simp only [linesG, hc]
    simp

/-- The three ends. -/
def isNl (nl : List UInt8) : Prop := nl = [10] ∨ nl = [13] ∨ nl = [13, 10]

theorem lines_nl (nl : List UInt8) (hn : isNl nl) (cur t : List UInt8) (ht : t.head? ≠ some 10) : linesG cur false (nl ++ t) = cur :: linesG [] false t := by
  rcases hn with rfl | rfl | rfl
  · simp [linesG]
  · simp only [List.cons_append, List.nil_append]
    have e : linesG cur false (13 :: t) = cur :: linesG [] true t := by simp [linesG]
    rw [e, beh_no [] t ht]
  · simp [linesG]

theorem nl_head (nl t : List UInt8) (hn : isNl nl) (h : nl ≠ [10]) : (nl ++ t).head? ≠ some 10 := by
  rcases hn with rfl | rfl | rfl
  · exact absurd rfl h
  · simp
  · simp

/-- Two ends behind one another. -/
theorem lines_nl2 (nl : List UInt8) (hn : isNl nl) (cur t : List UInt8) (ht : t.head? ≠ some 10) : linesG cur false (nl ++ (nl ++ t)) = cur :: [] :: linesG [] false t := by
  rcases hn with rfl | rfl | rfl
  · simp [linesG]
  · rw [lines_nl [13] (.inr (.inl rfl)) cur _ (by simp), lines_nl [13] (.inr (.inl rfl)) [] t ht]
  · simp [linesG]

def ln (k : Nat) : List UInt8 := List.replicate k 32 ++ [120]
def flat (nl : List UInt8) (ks : List Nat) : List UInt8 := ks.flatMap fun k => nl ++ ln k

theorem ln_clean (k : Nat) : clean (ln k) := by
  intro c hc
  unfold ln at hc
  rw [List.mem_append] at hc
  rcases hc with hc | hc
  · have := List.eq_of_mem_replicate hc
    subst this
    decide
  · simp at hc
    subst hc
    decide
theorem ln_head (k : Nat) (t : List UInt8) : (ln k ++ t).head? ≠ some 10 := by
  unfold ln
  cases k with
  | zero => simp
  | succ k => simp [List.replicate_succ]

theorem lines_flat (nl : List UInt8) (hn : isNl nl) (z : List UInt8) (R : List (List UInt8)) (hz : ∀ a, clean a → linesG [] false (a ++ z) = a :: R) : ∀ (ks : List Nat) (a : List UInt8), clean a → linesG [] false (a ++ (flat nl ks ++ z)) = a :: (ks.map ln ++ R) := by
  intro ks
  induction ks with
  | nil => intro a ha; exact hz a ha
  | cons k r ih =>
    intro a ha
    have e : flat nl (k :: r) ++ z = nl ++ (ln k ++ (flat nl r ++ z)) := by simp [flat]
    rw [e, lines_clean a [] ha, List.nil_append, lines_nl nl hn a _ (ln_head _ _), ih (ln k) (ln_clean k)]
    rfl

def firstL : List UInt8 := [102, 105, 114, 115, 116]
theorem first_clean : clean firstL := by
  intro c hc
  simp [firstL] at hc
  rcases hc with rfl | rfl | rfl | rfl | rfl <;> decide

theorem lines_S (nl : List UInt8) (hn : isNl nl) (ks : List Nat) : linesB (firstL ++ flat nl ks) = firstL :: ks.map ln := by
  have h := lines_flat nl hn [] [] (fun a ha => by rw [lines_clean a [] ha]; rfl) ks firstL first_clean
  rw [List.append_nil, List.append_nil] at h
  exact h
theorem first_head (t : List UInt8) : (firstL ++ t).head? ≠ some 10 := by simp [firstL]
theorem lines_nlS (nl : List UInt8) (hn : isNl nl) (ks : List Nat) : linesB (nl ++ (firstL ++ flat nl ks)) = [] :: firstL :: ks.map ln := by
  unfold linesB
  rw [lines_nl nl hn [] _ (first_head _)]
  exact congrArg _ (lines_S nl hn ks)

def two : List UInt8 := [32, 32]
def three : List UInt8 := [32, 32, 32]
theorem two_clean : clean two := by
  intro c hc
  simp [two] at hc
  subst hc
  decide
theorem three_clean : clean three := by
  intro c hc
  simp [three] at hc
  subst hc
  decide

theorem lines_big (nl : List UInt8) (hn : isNl nl) (ks : List Nat) : linesB (nl ++ (two ++ (nl ++ (firstL ++ (flat nl ks ++ (nl ++ (nl ++ three))))))) = [] :: two :: firstL :: (ks.map ln ++ [[], three]) := by
  unfold linesB
  have h := lines_flat nl hn (nl ++ (nl ++ three)) [[], three] (fun a ha => by
    rw [lines_clean a [] ha, List.nil_append, lines_nl2 nl hn a three (by simp [three])]
    have := lines_clean three [] three_clean []
    rw [List.append_nil] at this
    rw [this]
    rfl) ks firstL first_clean
  rw [lines_nl nl hn [] _ (by simp [two]), lines_clean two [] two_clean, List.nil_append, lines_nl nl hn two _ (first_head _), h]

theorem indent_ln (k : Nat) : indent (ln k) = k := by
  unfold ln
  induction k with
  | zero => rfl
  | succ k ih =>
    rw [List.replicate_succ, List.cons_append, indent_cons, if_pos (by decide), ih]
theorem len_ln (k : Nat) : (ln k).length = k + 1 := by simp [ln]
theorem blank_ln (k : Nat) : blankB (ln k) = false := by
  unfold blankB
  rw [indent_ln, len_ln]
  simp

def leastK (ks : List Nat) : Nat := ks.foldl min 99

theorem foldl_min_le (ks : List Nat) : ∀ a, ks.foldl min a ≤ a ∧ ∀ k ∈ ks, ks.foldl min a ≤ k := by
  induction ks with
  | nil => intro a; simp
  | cons b r ih =>
    intro a
    rw [List.foldl_cons]
    have h := ih (min a b)
    refine ⟨by omega, ?_⟩
    intro k hk
    rcases List.mem_cons.1 hk with rfl | hk
    · omega
    · exact h.2 k hk

theorem least_ln (ks : List Nat) : ∀ acc : Nat, (ks.map ln).foldl leastStep (acc : Int) = (ks.foldl min acc : Nat) := by
  induction ks with
  | nil => intro acc; rfl
  | cons k r ih =>
    intro acc
    rw [List.map_cons, List.foldl_cons, List.foldl_cons]
    have e : leastStep (acc : Int) (ln k) = ((min acc k : Nat) : Int) := by
      unfold leastStep
      rw [indent_ln, len_ln]
      split <;> omega
    rw [e, ih]

theorem leastI_ln (ks : List Nat) (hk : ∀ k ∈ ks, k < 7) : leastI (ks.map ln) = if ks = [] then 0 else (leastK ks : Int) := by
  cases ks with
  | nil => rfl
  | cons k r =>
    rw [if_neg (by simp)]
    have e : leastF ((k :: r).map ln) = (leastK (k :: r) : Int) := by
      unfold leastF leastK
      rw [List.map_cons, List.foldl_cons, List.foldl_cons]
      have e1 : leastStep (-1) (ln k) = ((min 99 k : Nat) : Int) := by
        unfold leastStep
        rw [indent_ln, len_ln]
        have := hk k (by simp)
        rw [if_pos (by omega)]
        omega
      rw [e1, least_ln]
    unfold leastI
    rw [e, if_neg (by omega)]

theorem cut_ln (L k : Nat) (h : L ≤ k) : cutL L (ln k) = ln (k - L) := by
  unfold cutL
  rw [indent_ln]
  have : (min (L : Int) (k : Int)).toNat = L := by omega
  rw [this]
  unfold ln
  rw [List.drop_append_of_le_length (by simp; exact h), List.drop_replicate]

theorem trim_keep (a : List UInt8) (ls : List (List UInt8)) (ha : blankB a = false) (hl : ∀ y ∈ ls, blankB y = false) : trimLL (a :: ls) = a :: ls := by
  unfold trimLL
  rw [List.dropWhile_cons, if_neg (by simp [ha])]
  have : ((a :: ls).reverse.dropWhile blankB) = (a :: ls).reverse := by
    have hall : ∀ y ∈ (a :: ls).reverse, blankB y = false := by
      intro y hy
      rw [List.mem_reverse] at hy
      rcases List.mem_cons.1 hy with rfl | hy
      · exact ha
      · exact hl y hy
    cases hq : (a :: ls).reverse with
    | nil => rfl
    | cons b r =>
      rw [List.dropWhile_cons, if_neg (by rw [hall b (by rw [hq]; simp)]; simp)]
  rw [this, List.reverse_reverse]

theorem blank_first : blankB firstL = false := by decide

/-- What the law wants of the text. -/
def wantL (ks : List Nat) : List UInt8 := firstL ++ ks.flatMap fun k => 10 :: ln (k - leastK ks)

theorem block_S (nl : List UInt8) (hn : isNl nl) (ks : List Nat) (hk : ∀ k ∈ ks, k < 7) : blockB (firstL ++ flat nl ks) = wantL ks := by
  unfold blockB
  rw [lines_S nl hn]
  have e : cutAll (firstL :: ks.map ln) = firstL :: ks.map fun k => ln (k - leastK ks) := by
    simp only [cutAll]
    rw [leastI_ln ks hk]
    by_cases h0 : ks = []
    · subst h0; rfl
    · rw [if_neg h0, List.map_map]
      congr 1
      refine List.map_congr_left ?_
      intro k hk'
      exact cut_ln _ k ((foldl_min_le ks 99).2 k hk')
  rw [e, trim_keep firstL _ blank_first]
  · simp [joinB, wantL, List.flatMap_map]
  · intro y hy
    obtain ⟨k, _, rfl⟩ := List.mem_map.1 hy
    exact blank_ln _

theorem cut_zero (x : List UInt8) : cutL 0 x = x := by
  unfold cutL
  have : (min (0 : Int) (indent x : Int)).toNat = 0 := by omega
  rw [this]
  rfl
theorem cut_zeros (ls : List (List UInt8)) : ls.map (cutL 0) = ls := by
  conv => rhs; rw [← List.map_id ls]
  refine List.map_congr_left ?_
  intro x _
  exact cut_zero x

theorem fold_zero (ls : List (List UInt8)) : ls.foldl leastStep 0 = 0 := by
  induction ls with
  | nil => rfl
  | cons x r ih =>
    rw [List.foldl_cons]
    have : leastStep 0 x = 0 := by
      unfold leastStep
      rw [if_neg (by omega)]
    rw [this, ih]

theorem least_first (ls : List (List UInt8)) : leastI (firstL :: ls) = 0 := by
  have e : leastF (firstL :: ls) = 0 := by
    unfold leastF
    rw [List.foldl_cons]
    have : leastStep (-1) firstL = 0 := by decide
    rw [this, fold_zero]
  unfold leastI
  rw [e]
  rfl
theorem least_two (ls : List (List UInt8)) : leastI (two :: firstL :: ls) = 0 := by
  have e : leastF (two :: firstL :: ls) = 0 := by
    unfold leastF
    rw [List.foldl_cons, List.foldl_cons]
    have : leastStep (leastStep (-1) two) firstL = 0 := by decide
    rw [this, fold_zero]
  unfold leastI
  rw [e]
  rfl

theorem trim_pre (a : List UInt8) (ls : List (List UInt8)) (h : blankB a = true) : trimLL (a :: ls) = trimLL ls := by
  unfold trimLL
  rw [List.dropWhile_cons, if_pos h]
theorem trim_post (a b c : List UInt8) (ls : List (List UInt8)) (ha : blankB a = false) (hb : blankB b = true) (hc : blankB c = true) : trimLL (a :: (ls ++ [b, c])) = trimLL (a :: ls) := by
  unfold trimLL
  rw [List.dropWhile_cons, if_neg (by simp [ha]), List.dropWhile_cons, if_neg (by simp [ha])]
  have : (a :: (ls ++ [b, c])).reverse = c :: b :: (a :: ls).reverse := by simp
  rw [this, List.dropWhile_cons, if_pos hc, List.dropWhile_cons, if_pos hb]

theorem block_two (nl : List UInt8) (hn : isNl nl) (ks : List Nat) : blockB (nl ++ (two ++ (nl ++ (firstL ++ (flat nl ks ++ (nl ++ (nl ++ three))))))) = blockB (nl ++ (firstL ++ flat nl ks)) := by
  unfold blockB
  rw [lines_big nl hn, lines_nlS nl hn]
  simp only [cutAll]
  rw [least_two, least_first, cut_zeros, cut_zeros, trim_pre [] _ (by decide), trim_pre two _ (by decide), trim_pre [] _ (by decide), trim_post firstL [] three _ blank_first (by decide) (by decide)]

end Go.Proofs.Ytaafnkhemklpeaa
