/-
  How long a value's text is that has been read out of tokens. No world: plain functions alone.
-/
import Derived.Test.YtkfllppggjhhmaaGreatDoorMPm
import Derived.Test.YtkfllppggjhhmaaGreatDoorMLet0
import Derived.Test.YtkfllppggjhhmaaGreatDoorMAw
namespace Go.Proofs.YtkfllppggjhhmaaGreatDoor
open Go.RowKit

theorem vpts_len (f : JV → List UInt8) (ob : Bool) : ∀ (ps : List JV) (ns : List ByteArray) (fst : Bool), (vpts f ob fst ns ps).length ≤ (ps.map fun p => (f p).length + 4).sum + 6 * (ns.map fun n => n.size).sum
  | [], _, _ => Nat.zero_le _
  | p :: ps, ns, fst => by
    have h1 := vpts_len f ob ps ns.tail false
    have e4 : (if fst then ([] : List UInt8) else [32]).length ≤ 1 := by cases fst <;> decide
    have e5 : (if ob then vbl (ns.headD ⟨#[]⟩) ++ [58] else []).length ≤ 6 * (ns.headD ⟨#[]⟩).size + 3 := by
      cases ob
      · exact Nat.zero_le _
      · show (vbl _ ++ [58]).length ≤ _
        have h3 : (vbl (ns.headD ⟨#[]⟩)).length = (ns.headD ⟨#[]⟩).size := rfl
        rw [List.length_append, List.length_singleton]
        omega
    have e6 : (ns.map fun n => n.size).sum = (ns.headD ⟨#[]⟩).size + (ns.tail.map fun n => n.size).sum := by
      cases ns with
      | nil => rfl
      | cons a r => simp
    unfold vpts
    simp only [List.length_append, List.map_cons, List.sum_cons]
    omega
theorem leafT_len (x : JV) : (leafT x).length ≤ 6 * x.s.size + 4 := by
  have hs : (vbl x.s).length = x.s.size := rfl
  unfold leafT
  split
  · show 4 ≤ _; omega
  split
  · have := quoteIn_len (vbl x.s)
    unfold quoteB
    split
    · simp only [List.length_cons, List.length_append, List.length_nil]; omega
    · simp only [List.length_nil]; omega
  split
  · rw [List.length_cons]; omega
  · omega

/-- What a row of tokens weighs. -/
def ck1 (t : Sk) : Nat := 6 * t.2.length + 10
def cks (l : List Sk) : Nat := (l.map ck1).sum
theorem cks_tail (l : List Sk) (h : 0 < l.length) : cks l = ck1 (hdK l) + cks l.tail := by
  cases l with
  | nil => exact absurd h (Nat.lt_irrefl 0)
  | cons a r => simp [cks, hdK]
theorem cks_le (l : List Sk) : cks l.tail ≤ cks l := by
  cases l with
  | nil => exact Nat.le_refl _
  | cons a r => simp [cks]
theorem pos_of_k {l : List Sk} (h : (hdK l).1 ≠ 0) : 0 < l.length := by
  cases l with
  | nil => exact absurd rfl h
  | cons a r => exact Nat.succ_pos _
theorem vs_sgk {t : Sk} {c : UInt8} (h : sg t c = true) : t.1 ≠ 0 := by
  unfold sg at h
  simp only [Bool.and_eq_true, beq_iff_eq] at h
  omega
/-- So long a value is at most that was read out of l, r being left. -/
def Vl (q : VR) (l : List Sk) : Prop := q.2.2 = 0 → ∀ m, (vtxt m q.1).length + 4 + cks q.2.1 ≤ cks l
theorem vtxt_vx (k : Int) (s : List UInt8) (h7 : k ≠ 7) (h8 : k ≠ 8) (m : Nat) : (vtxt m (vx k s)).length ≤ 6 * s.length + 4 := by
  have h1 : vtxt m (vx k s) = leafT (vx k s) := by
    cases m with
    | zero =>
      unfold vtxt
      rw [if_neg]
      unfold compV vx JV.k
      simp [h7, h8]
    | succ m =>
      unfold vtxt
      rw [if_neg (show ¬ (vx k s).k = 7 from h7), if_neg (show ¬ (vx k s).k = 8 from h8)]
  rw [h1]
  exact leafT_len (vx k s)
theorem plainV_len {l : List Sk} (h : (plainV (hdK l)).k ≠ 0) : Vl (plainV (hdK l), l.tail, 0) l := fun _ m => by
  have hk : (hdK l).1 ≠ 0 := by
    intro e
    apply h
    unfold plainV
    rw [e]
    rfl
  have hl := cks_tail l (pos_of_k hk)
  have hx : (vtxt m (plainV (hdK l))).length ≤ 6 * (hdK l).2.length + 4 := by
    unfold plainV
    split
    · unfold wordV
      split
      · exact Nat.le_trans (vtxt_vx 1 [] (by decide) (by decide) m) (by simp)
      · split
        · exact vtxt_vx 2 _ (by decide) (by decide) m
        · split
          · exact vtxt_vx 2 _ (by decide) (by decide) m
          · exact vtxt_vx 6 _ (by decide) (by decide) m
    · split
      · exact vtxt_vx 3 _ (by decide) (by decide) m
      · split
        · exact vtxt_vx 4 _ (by decide) (by decide) m
        · split
          · exact vtxt_vx 5 _ (by decide) (by decide) m
          · cases m <;> simp [vtxt, vz, compV, JV.k, leafT, vbl, JV.s]
  unfold ck1 at hl
  show (vtxt m (plainV (hdK l))).length + 4 + cks l.tail ≤ cks l
  omega
theorem varV_len {l : List Sk} (h : sg (hdK l) 36 = true) : Vl (varV l.tail) l := fun h0 m => by
  have hl := cks_tail l (pos_of_k (vs_sgk h))
  unfold varV at *
  split at h0
  · rename_i h1
    rw [if_pos h1]
    have hl2 := cks_tail l.tail (pos_of_k (by omega))
    have := vtxt_vx 9 (hdK l.tail).2 (by decide) (by decide) m
    unfold ck1 at hl hl2
    show (vtxt m (vx 9 (hdK l.tail).2)).length + 4 + cks l.tail.tail ≤ cks l
    omega
  · exact absurd h0 (by first | exact (show ¬ (2 : Nat) = 0 by decide) | exact (show ¬ (4 : Nat) = 0 by decide))
theorem sum_snoc (f : JV → Nat) (xs : List JV) (x : JV) : ((xs ++ [x]).map f).sum = (xs.map f).sum + f x := by simp
theorem list_len (V : List Sk → VR) (hV : ∀ l, Vl (V l) l) : ∀ (n : Nat) (l : List Sk) (xs : List JV) (c : Nat), (∀ m, (xs.map fun p => (vtxt m p).length + 4).sum + cks l ≤ c) → (vListGo V n l xs).2.2 = 0 →
    ∀ m, (vtxt m (vListGo V n l xs).1).length + 4 + cks (vListGo V n l xs).2.1 ≤ c
  | 0, _, _, _, _, h0 => absurd h0 (by first | exact (show ¬ (2 : Nat) = 0 by decide) | exact (show ¬ (4 : Nat) = 0 by decide))
  | n + 1, l, xs, c, hc, h0 => by
    unfold vListGo at *
    split at h0
    · rename_i h1
      rw [if_pos h1]
      intro m
      have hl := cks_tail l (pos_of_k (vs_sgk h1))
      cases m with
      | zero =>
        have := hc 0
        have e : vtxt 0 (.mk 7 ⟨#[]⟩ [] xs) = [] := rfl
        rw [e]
        unfold ck1 at hl
        show 0 + 4 + cks l.tail ≤ c
        omega
      | succ m =>
        have := hc m
        have e : vtxt (m + 1) (.mk 7 ⟨#[]⟩ [] xs) = [91] ++ (vpts (vtxt m) false true [] xs ++ [93]) := rfl
        have h2 := vpts_len (vtxt m) false xs [] true
        rw [e]
        simp only [List.length_append, List.length_cons, List.length_nil, List.map_nil, List.sum_nil] at *
        unfold ck1 at hl
        show 0 + 1 + ((vpts (vtxt m) false true [] xs).length + (0 + 1)) + 4 + cks l.tail ≤ c
        omega
    · rename_i h1
      rw [if_neg h1]
      split at h0
      · rename_i h2
        rw [if_pos h2]
        refine list_len V hV n _ _ c (fun m => ?_) h0
        have h3 := hV l h2 m
        have h4 := hc m
        rw [sum_snoc]
        omega
      · rename_i h2
        exact absurd h0 h2
theorem obj_len (V : List Sk → VR) (hV : ∀ l, Vl (V l) l) : ∀ (n : Nat) (l : List Sk) (ns : List ByteArray) (xs : List JV) (c : Nat), (∀ m, (xs.map fun p => (vtxt m p).length + 4).sum + 6 * (ns.map fun n => n.size).sum + cks l ≤ c) → (vObjGo V n l ns xs).2.2 = 0 →
    ∀ m, (vtxt m (vObjGo V n l ns xs).1).length + 4 + cks (vObjGo V n l ns xs).2.1 ≤ c
  | 0, _, _, _, _, _, h0 => absurd h0 (by first | exact (show ¬ (2 : Nat) = 0 by decide) | exact (show ¬ (4 : Nat) = 0 by decide))
  | n + 1, l, ns, xs, c, hc, h0 => by
    unfold vObjGo at *
    split at h0
    · rename_i h1
      rw [if_pos h1]
      intro m
      have hl := cks_tail l (pos_of_k (vs_sgk h1))
      unfold ck1 at hl
      cases m with
      | zero =>
        have := hc 0
        have e : vtxt 0 (.mk 8 ⟨#[]⟩ ns xs) = [] := rfl
        rw [e]
        show 0 + 4 + cks l.tail ≤ c
        omega
      | succ m =>
        have := hc m
        have e : vtxt (m + 1) (.mk 8 ⟨#[]⟩ ns xs) = [123] ++ (vpts (vtxt m) true true ns xs ++ [125]) := rfl
        have h2 := vpts_len (vtxt m) true xs ns true
        rw [e]
        simp only [List.length_append, List.length_cons, List.length_nil]
        show 0 + 1 + ((vpts (vtxt m) true true ns xs).length + (0 + 1)) + 4 + cks l.tail ≤ c
        omega
    · rename_i h1
      rw [if_neg h1]
      split at h0
      · rename_i h2
        rw [if_pos h2]
        split at h0
        · rename_i h3
          rw [if_pos h3]
          split at h0
          · rename_i h4
            rw [if_pos h4]
            refine obj_len V hV n _ _ _ c (fun m => ?_) h0
            have h5 := hV _ h4 m
            have h6 := hc m
            have h7 := cks_tail l (pos_of_k (by omega))
            have h8 := cks_tail l.tail (pos_of_k (vs_sgk h3))
            have h9 : ((ns ++ [(⟨(hdK l).2.toArray⟩ : ByteArray)]).map fun n => n.size).sum = (ns.map fun n => n.size).sum + (hdK l).2.length := by
              simp only [List.map_append, List.map_cons, List.map_nil, List.sum_append, List.sum_cons, List.sum_nil]
              show _ + ((hdK l).2.toArray.size + 0) = _
              simp
            rw [sum_snoc, h9]
            unfold ck1 at h7 h8
            omega
          · rename_i h4
            exact absurd h0 h4
        · exact absurd h0 (by first | exact (show ¬ (2 : Nat) = 0 by decide) | exact (show ¬ (4 : Nat) = 0 by decide))
      · exact absurd h0 (by first | exact (show ¬ (2 : Nat) = 0 by decide) | exact (show ¬ (4 : Nat) = 0 by decide))
theorem pvT_len : ∀ (f : Nat) (l : List Sk), Vl (pvT f l) l
  | 0, l => by
    unfold pvT
    split
    · rename_i h; exact plainV_len h
    · split
      · rename_i h; exact varV_len h
      · split <;> exact fun h => absurd h (by first | exact (show ¬ (2 : Nat) = 0 by decide) | exact (show ¬ (4 : Nat) = 0 by decide))
  | f + 1, l => by
    unfold pvT
    split
    · rename_i h; exact plainV_len h
    · split
      · rename_i h; exact varV_len h
      · split
        · exact fun h0 => list_len _ (pvT_len f) _ _ _ _ (fun m => by simpa using cks_le l) h0
        · split
          · exact fun h0 => obj_len _ (pvT_len f) _ _ _ _ _ (fun m => by simpa using cks_le l) h0
          · exact fun h => absurd h (by first | exact (show ¬ (2 : Nat) = 0 by decide) | exact (show ¬ (4 : Nat) = 0 by decide))

/-- A value whose text is short. -/
def VS (x : JV) : Prop := ∀ m, (vtxt m x).length ≤ 100000000000
theorem vs_vz : VS vz := fun m => by
  have e : vtxt m vz = [] := by cases m <;> rfl
  rw [e]
  exact Nat.zero_le _
theorem pvT_small (f : Nat) (l : List Sk) (hl : l.length ≤ 10000) (hz : ∀ t ∈ l, t.2.length ≤ 1000000) (h : (pvT f l).2.2 = 0) : VS (pvT f l).1 := fun m => by
  have h1 := pvT_len f l h m
  have h2 : ∀ l : List Sk, (∀ t ∈ l, t.2.length ≤ 1000000) → cks l ≤ l.length * 6000010 := by
    intro l
    induction l with
    | nil => intro _; exact Nat.le_refl _
    | cons a r ih =>
      intro hz
      have h3 := ih (fun t ht => hz t (List.mem_cons_of_mem _ ht))
      have h4 := hz a (List.mem_cons_self ..)
      have e : cks (a :: r) = 6 * a.2.length + 10 + cks r := by simp [cks, ck1]
      rw [e, List.length_cons, Nat.succ_mul]
      omega
  have h3 := h2 l hz
  have h4 := Nat.mul_le_mul_right 6000010 hl
  omega

end Go.Proofs.YtkfllppggjhhmaaGreatDoor
/-
  Documents in memory: what a slice of records holds, as plain lists; such a slice as it grows.
-/
namespace Go.Proofs.YtkfllppggjhhmaaGreatDoor
open Go.RowKit

/-! ### what is read is a piece of what stood ahead -/
theorem tail_le {α : Type} (l : List α) : l.tail.length ≤ l.length := by rw [List.length_tail]; omega
theorem list_le (V : List Sk → VR) (hV : ∀ l, (V l).2.1.length ≤ l.length) : ∀ (n : Nat) (l : List Sk) (xs : List JV), (vListGo V n l xs).2.1.length ≤ l.length
  | 0, _, _ => Nat.le_refl _
  | n + 1, l, xs => by
    unfold vListGo
    split
    · exact tail_le l
    · split
      · exact Nat.le_trans (list_le V hV n _ _) (hV l)
      · exact hV l
theorem obj_le (V : List Sk → VR) (hV : ∀ l, (V l).2.1.length ≤ l.length) : ∀ (n : Nat) (l : List Sk) (ns : List ByteArray) (xs : List JV), (vObjGo V n l ns xs).2.1.length ≤ l.length
  | 0, _, _, _ => Nat.le_refl _
  | n + 1, l, ns, xs => by
    have h5 : l.tail.tail.length ≤ l.length := by rw [List.length_tail, List.length_tail]; omega
    unfold vObjGo
    split
    · exact tail_le l
    · split
      · split
        · split
          · exact Nat.le_trans (obj_le V hV n _ _ _) (Nat.le_trans (hV _) h5)
          · exact Nat.le_trans (hV _) h5
        · exact tail_le l
      · exact Nat.le_refl _
theorem pvT_le : ∀ (f : Nat) (l : List Sk), (pvT f l).2.1.length ≤ l.length
  | 0, l => by
    unfold pvT
    split
    · exact tail_le l
    · split
      · exact Nat.le_trans (var_le _) (tail_le l)
      · split <;> exact Nat.le_refl _
  | f + 1, l => by
    unfold pvT
    split
    · exact tail_le l
    · split
      · exact Nat.le_trans (var_le _) (tail_le l)
      · split
        · exact Nat.le_trans (list_le _ (pvT_le f) _ _ _) (tail_le l)
        · split
          · exact Nat.le_trans (obj_le _ (pvT_le f) _ _ _ _) (tail_le l)
          · exact Nat.le_refl _
theorem opensL_le : ∀ (k : Nat) (l : List Sk), (opensL k l).length ≤ l.length
  | 0, _ => Nat.le_refl _
  | k + 1, l => by
    unfold opensL
    split
    · exact Nat.le_trans (opensL_le k _) (tail_le l)
    · exact Nat.le_refl _
theorem bang_le (l : List Sk) : (bangP l).2.length ≤ l.length := by
  unfold bangP
  split
  · exact tail_le l
  · exact Nat.le_refl _
theorem tyEnds_le : ∀ (n : Nat) (l : List Sk) (ws : List UInt8) (q : List UInt8 × List Sk), tyEnds n l ws = some q → q.2.length ≤ l.length
  | 0, l, ws, q, h => by
    unfold tyEnds at h
    injection h with h
    rw [← h]; exact Nat.le_refl _
  | n + 1, l, ws, q, h => by
    unfold tyEnds at h
    split at h
    · exact Nat.le_trans (tyEnds_le n _ _ q h) (Nat.le_trans (bang_le _) (tail_le l))
    · cases h
theorem type_le {l : List Sk} {nm ws : List UInt8} {r : List Sk} (h : typeP l = some (nm, ws, r)) : r.length ≤ l.length := by
  unfold typeP at h
  split at h
  · cases ht : tyEnds (opensN 12 l) (bangP (opensL 12 l).tail).2 (bangP (opensL 12 l).tail).1 with
    | none => rw [ht] at h; cases h
    | some q =>
      rw [ht] at h
      injection h with h
      have h2 := tyEnds_le _ _ _ _ ht
      rw [show r = q.2 from (congrArg (fun x => x.2.2) h).symm]
      exact Nat.le_trans h2 (Nat.le_trans (bang_le _) (Nat.le_trans (tail_le _) (opensL_le 12 l)))
  · cases h

/-! ### records -/
abbrev ElemR (α : Type) := World → (Nat → Prop) → α → List Value → Prop
/-- A slice of records of sz cells each reads as xs, through blocks that D names. -/
def RowD {α : Type} (E : ElemR α) (sz : Nat) (w : World) (D : Nat → Prop) (xs : List α) (v : Value) : Prop :=
  ∃ a cap, v = .slice a xs.length cap ∧ xs.length ≤ 2000000 ∧ xs.length ≤ cap ∧ (0 < xs.length → ∃ g off, a = some ⟨g, off, none⟩ ∧ D g ∧
    ∀ i x, xs[i]? = some x → ∃ cs : List Value, cs.length = sz ∧ (∀ k u, cs[k]? = some u → w.cell? ⟨g, off + i * sz + k, none⟩ = some u) ∧ E w D x cs)
/-- What holds of a record's cells where nothing that it reads has changed; how many cells it has. -/
structure ElemOk {α : Type} (E : ElemR α) (sz : Nat) : Prop where
  step : ∀ {w w' : World} {D D' : Nat → Prop} {x : α} {cs : List Value}, (∀ b, D b → D' b) → (∀ b o, D b → w'.cell? ⟨b, o, none⟩ = w.cell? ⟨b, o, none⟩) → E w D x cs → E w' D' x cs
  len : ∀ {w : World} {D : Nat → Prop} {x : α} {cs : List Value}, E w D x cs → cs.length = sz
  one : ∀ {w : World} {D : Nat → Prop} {x : α} {cs : List Value}, E w D x cs → ∀ u ∈ cs, u.oneCell' = true

theorem RowD.step {α : Type} {E : ElemR α} {sz : Nat} (hE : ElemOk E sz) {w w' : World} {D D' : Nat → Prop} {xs : List α} {v : Value} (hD : ∀ b, D b → D' b) (hk : ∀ b o, D b → w'.cell? ⟨b, o, none⟩ = w.cell? ⟨b, o, none⟩)
    (h : RowD E sz w D xs v) : RowD E sz w' D' xs v := by
  obtain ⟨a, cap, e, h1, h2, hr⟩ := h
  refine ⟨a, cap, e, h1, h2, fun hp => ?_⟩
  obtain ⟨g, off, e, hg, hc⟩ := hr hp
  refine ⟨g, off, e, hD g hg, fun i x hx => ?_⟩
  obtain ⟨cs, hl, hcs, hR⟩ := hc i x hx
  exact ⟨cs, hl, fun k u hu => (hk g _ hg).trans (hcs k u hu), hE.step hD hk hR⟩
theorem RowD.nil {α : Type} {E : ElemR α} {sz : Nat} {w : World} {D : Nat → Prop} : RowD E sz w D [] (.slice none 0 0) := ⟨none, 0, rfl, Nat.zero_le _, Nat.le_refl _, fun h => absurd h (Nat.lt_irrefl 0)⟩
theorem RowD.shape {α : Type} {E : ElemR α} {sz : Nat} {w : World} {D : Nat → Prop} {xs : List α} {v : Value} (h : RowD E sz w D xs v) : ∃ a cap, v = .slice a xs.length cap := by
  obtain ⟨a, cap, e, _⟩ := h
  exact ⟨a, cap, e⟩

/-- A value of whatever depth. -/
def RdX (w : World) (D : Nat → Prop) (x : JV) (v : Value) : Prop := ∃ n, RdD w D n x v
theorem RdX.step {w w' : World} {D D' : Nat → Prop} {x : JV} {v : Value} (hD : ∀ b, D b → D' b) (hk : ∀ b o, D b → w'.cell? ⟨b, o, none⟩ = w.cell? ⟨b, o, none⟩) (h : RdX w D x v) : RdX w' D' x v := by
  obtain ⟨n, h⟩ := h
  exact ⟨n, RdD.step hD hk h⟩
theorem RdX.shape {w : World} {D : Nat → Prop} {x : JV} {v : Value} (h : RdX w D x v) : ∃ an cn ap cp, v = .agg #[.int .i64 x.k, .string x.s, .slice an x.ns.length cn, .slice ap x.ps.length cp] := by
  obtain ⟨n, h⟩ := h
  exact h.shape
def ArgE : ElemR ArgT := fun w D x cs => (x.1.length ≤ 2000000 ∧ VS x.2) ∧ ∃ c0 c1 c2 c3, cs = [.string ⟨x.1.toArray⟩, c0, c1, c2, c3] ∧ RdX w D x.2 (.agg #[c0, c1, c2, c3])
def DirE : ElemR DirT := fun w D x cs => x.1.length ≤ 2000000 ∧ ∃ v, cs = [.string ⟨x.1.toArray⟩, v] ∧ RowD ArgE 5 w D x.2 v
def SelE : Nat → ElemR SelT
  | 0 => fun _ _ _ _ => False
  | n + 1 => fun w D x cs => (x.al.length ≤ 2000000 ∧ x.nm.length ≤ 2000000 ∧ x.on_.length ≤ 2000000) ∧ ∃ va vd vs, cs = [.int .i64 (x.k : Int), .string ⟨x.al.toArray⟩, .string ⟨x.nm.toArray⟩, .string ⟨x.on_.toArray⟩, va, vd, vs] ∧ RowD ArgE 5 w D x.args va ∧ RowD DirE 2 w D x.dirs vd ∧ RowD (SelE n) 7 w D x.sels vs
def VarE : ElemR VarT := fun w D x cs => (x.nm.length ≤ 2000000 ∧ x.ty.1.length ≤ 2000000 ∧ x.ty.2.length ≤ 2000000 ∧ VS x.dflt) ∧ ∃ c0 c1 c2 c3, cs = [.string ⟨x.nm.toArray⟩, .string ⟨x.ty.1.toArray⟩, .string ⟨x.ty.2.toArray⟩, c0, c1, c2, c3] ∧ RdX w D x.dflt (.agg #[c0, c1, c2, c3])
/-- Selections of whatever depth. -/
def SelsX (w : World) (D : Nat → Prop) (xs : List SelT) (v : Value) : Prop := ∃ n, RowD (SelE n) 7 w D xs v
def OpE : ElemR OpT := fun w D x cs => x.nm.length ≤ 2000000 ∧ ∃ vv vd vs, cs = [.bool x.mut_, .string ⟨x.nm.toArray⟩, vv, vd, vs] ∧ RowD VarE 7 w D x.vars vv ∧ RowD DirE 2 w D x.dirs vd ∧ SelsX w D x.sels vs
def FragE : ElemR FragT := fun w D x cs => (x.nm.length ≤ 2000000 ∧ x.on_.length ≤ 2000000) ∧ ∃ vd vs, cs = [.string ⟨x.nm.toArray⟩, .string ⟨x.on_.toArray⟩, vd, vs] ∧ RowD DirE 2 w D x.dirs vd ∧ SelsX w D x.sels vs
def DocE (w : World) (D : Nat → Prop) (x : DocT) (v : Value) : Prop := ∃ vo vf, v = .agg #[vo, vf] ∧ RowD OpE 5 w D x.ops vo ∧ RowD FragE 4 w D x.frags vf

theorem rd_one {w : World} {D : Nat → Prop} {n : Nat} {x : JV} {c0 c1 c2 c3 : Value} (h : RdD w D n x (.agg #[c0, c1, c2, c3])) : c0.oneCell' = true ∧ c1.oneCell' = true ∧ c2.oneCell' = true ∧ c3.oneCell' = true := by
  obtain ⟨an, cn, ap, cp, e⟩ := h.shape
  injection e with e
  have e' := congrArg Array.toList e
  simp at e'
  obtain ⟨rfl, rfl, rfl, rfl⟩ := e'
  exact ⟨rfl, rfl, rfl, rfl⟩
theorem rdx_one {w : World} {D : Nat → Prop} {x : JV} {c0 c1 c2 c3 : Value} (h : RdX w D x (.agg #[c0, c1, c2, c3])) : c0.oneCell' = true ∧ c1.oneCell' = true ∧ c2.oneCell' = true ∧ c3.oneCell' = true := by
  obtain ⟨n, h⟩ := h
  exact rd_one h
theorem row_one {α : Type} {E : ElemR α} {sz : Nat} {w : World} {D : Nat → Prop} {xs : List α} {v : Value} (h : RowD E sz w D xs v) : v.oneCell' = true := by
  obtain ⟨a, cap, rfl⟩ := h.shape
  rfl
theorem argOk : ElemOk ArgE 5 := by
  refine ⟨fun hD hk h => ?_, fun h => ?_, fun h => ?_⟩
  · obtain ⟨h1, c0, c1, c2, c3, e, hR⟩ := h
    exact ⟨h1, c0, c1, c2, c3, e, RdX.step hD hk hR⟩
  · obtain ⟨_, c0, c1, c2, c3, rfl, _⟩ := h; rfl
  · obtain ⟨_, c0, c1, c2, c3, rfl, hR⟩ := h
    obtain ⟨o0, o1, o2, o3⟩ := rdx_one hR
    intro u hu
    simp at hu
    rcases hu with rfl | rfl | rfl | rfl | rfl
    · rfl
    · exact o0
    · exact o1
    · exact o2
    · exact o3
theorem dirOk : ElemOk DirE 2 := by
  refine ⟨fun hD hk h => ?_, fun h => ?_, fun h => ?_⟩
  · obtain ⟨h1, v, e, hR⟩ := h
    exact ⟨h1, v, e, RowD.step argOk hD hk hR⟩
  · obtain ⟨_, v, rfl, _⟩ := h; rfl
  · obtain ⟨_, v, rfl, hR⟩ := h
    intro u hu
    simp at hu
    rcases hu with rfl | rfl
    · rfl
    · exact row_one hR
theorem selOk : ∀ n, ElemOk (SelE n) 7
  | 0 => ⟨fun _ _ h => h.elim, fun h => h.elim, fun h => h.elim⟩
  | n + 1 => by
    refine ⟨fun hD hk h => ?_, fun h => ?_, fun h => ?_⟩
    · obtain ⟨h1, va, vd, vs, e, ha, hd, hs⟩ := h
      exact ⟨h1, va, vd, vs, e, RowD.step argOk hD hk ha, RowD.step dirOk hD hk hd, RowD.step (selOk n) hD hk hs⟩
    · obtain ⟨_, va, vd, vs, rfl, _⟩ := h; rfl
    · obtain ⟨_, va, vd, vs, rfl, ha, hd, hs⟩ := h
      intro u hu
      simp at hu
      rcases hu with rfl | rfl | rfl | rfl | rfl | rfl | rfl
      · rfl
      · rfl
      · rfl
      · rfl
      · exact row_one ha
      · exact row_one hd
      · exact row_one hs
theorem varOk : ElemOk VarE 7 := by
  refine ⟨fun hD hk h => ?_, fun h => ?_, fun h => ?_⟩
  · obtain ⟨h1, c0, c1, c2, c3, e, hR⟩ := h
    exact ⟨h1, c0, c1, c2, c3, e, RdX.step hD hk hR⟩
  · obtain ⟨_, c0, c1, c2, c3, rfl, _⟩ := h; rfl
  · obtain ⟨_, c0, c1, c2, c3, rfl, hR⟩ := h
    obtain ⟨o0, o1, o2, o3⟩ := rdx_one hR
    intro u hu
    simp at hu
    rcases hu with rfl | rfl | rfl | rfl | rfl | rfl | rfl
    · rfl
    · rfl
    · rfl
    · exact o0
    · exact o1
    · exact o2
    · exact o3
theorem SelsX.step {w w' : World} {D D' : Nat → Prop} {xs : List SelT} {v : Value} (hD : ∀ b, D b → D' b) (hk : ∀ b o, D b → w'.cell? ⟨b, o, none⟩ = w.cell? ⟨b, o, none⟩) (h : SelsX w D xs v) : SelsX w' D' xs v := by
  obtain ⟨n, h⟩ := h
  exact ⟨n, RowD.step (selOk n) hD hk h⟩
theorem SelsX.shape {w : World} {D : Nat → Prop} {xs : List SelT} {v : Value} (h : SelsX w D xs v) : ∃ a cap, v = .slice a xs.length cap := by
  obtain ⟨n, h⟩ := h
  exact h.shape
theorem sels_one {w : World} {D : Nat → Prop} {xs : List SelT} {v : Value} (h : SelsX w D xs v) : v.oneCell' = true := by
  obtain ⟨a, cap, rfl⟩ := h.shape
  rfl
theorem opOk : ElemOk OpE 5 := by
  refine ⟨fun hD hk h => ?_, fun h => ?_, fun h => ?_⟩
  · obtain ⟨h1, vv, vd, vs, e, hv, hd, hs⟩ := h
    exact ⟨h1, vv, vd, vs, e, RowD.step varOk hD hk hv, RowD.step dirOk hD hk hd, SelsX.step hD hk hs⟩
  · obtain ⟨_, vv, vd, vs, rfl, _⟩ := h; rfl
  · obtain ⟨_, vv, vd, vs, rfl, hv, hd, hs⟩ := h
    intro u hu
    simp at hu
    rcases hu with rfl | rfl | rfl | rfl | rfl
    · rfl
    · rfl
    · exact row_one hv
    · exact row_one hd
    · exact sels_one hs
theorem fragOk : ElemOk FragE 4 := by
  refine ⟨fun hD hk h => ?_, fun h => ?_, fun h => ?_⟩
  · obtain ⟨h1, vd, vs, e, hd, hs⟩ := h
    exact ⟨h1, vd, vs, e, RowD.step dirOk hD hk hd, SelsX.step hD hk hs⟩
  · obtain ⟨_, vd, vs, rfl, _⟩ := h; rfl
  · obtain ⟨_, vd, vs, rfl, hd, hs⟩ := h
    intro u hu
    simp at hu
    rcases hu with rfl | rfl | rfl | rfl
    · rfl
    · rfl
    · exact row_one hd
    · exact sels_one hs
theorem DocE.step {w w' : World} {D D' : Nat → Prop} {x : DocT} {v : Value} (hD : ∀ b, D b → D' b) (hk : ∀ b o, D b → w'.cell? ⟨b, o, none⟩ = w.cell? ⟨b, o, none⟩) (h : DocE w D x v) : DocE w' D' x v := by
  obtain ⟨vo, vf, e, ho, hf⟩ := h
  exact ⟨vo, vf, e, RowD.step opOk hD hk ho, RowD.step fragOk hD hk hf⟩

/-! ### a row as it grows -/
def OD (B : Nat) (W : World) (v : Value) (b : Nat) : Prop := B ≤ b ∧ b < W.heap.size ∧ v.ownBlock ≠ some b
structure OwnR {α : Type} (E : ElemR α) (B : Nat) (T : TypeId) (sz : Nat) (xs : List α) (cs : List Value) (v : Value) (W : World) : Prop where
  own : W.ownsRow B T sz v xs.length cs
  el : ∀ i x, xs[i]? = some x → ∃ es, es.length = sz ∧ (∀ k u, es[k]? = some u → cs[i * sz + k]? = some u) ∧ E W (OD B W v) x es

theorem OwnR.nil {α : Type} {E : ElemR α} {B : Nat} {T : TypeId} {sz : Nat} {W : World} : OwnR E B T sz [] [] (.slice none 0 0) W := ⟨World.ownsRow_nil _ _ _ _, fun i x hx => by simp at hx⟩
/-- Nothing from B on has changed but what is new (and what lies in another block than any of the row's). -/
theorem OwnR.keep {α : Type} {E : ElemR α} {B : Nat} {T : TypeId} {sz : Nat} (hE : ElemOk E sz) {xs : List α} {cs : List Value} {v : Value} {W W' : World} (h : OwnR E B T sz xs cs v W)
    (hb : ∀ b, B ≤ b → b < W.heap.size → W'.heap[b]? = W.heap[b]?) (hs : W.heap.size ≤ W'.heap.size) : OwnR E B T sz xs cs v W' := by
  refine ⟨ownsRow_block h.own (fun g e => ?_), fun i x hx => ?_⟩
  · have := h.own.lt g e
    exact hb g this.1 this.2
  · obtain ⟨es, hl, hc, hR⟩ := h.el i x hx
    exact ⟨es, hl, hc, hE.step (fun b hd => ⟨hd.1, by have := hd.2.1; omega, hd.2.2⟩) (fun b o hd => World.cell?_of_block (a := ⟨b, o, none⟩) (hb b hd.1 hd.2.1)) hR⟩
/-- One more record. -/
theorem OwnR.snoc {α : Type} {E : ElemR α} {B : Nat} {T : TypeId} {sz : Nat} (hE : ElemOk E sz) {xs : List α} {cs : List Value} {v v' : Value} {W W' : World} {x : α} {es : List Value} (h : OwnR E B T sz xs cs v W)
    (hx : E W (OD B W v) x es) (hown : W'.ownsRow B T sz v' (xs.length + 1) (cs ++ es)) (hg : W.grownBy W' v.ownBlock) (hlie : v'.ownBlock = v.ownBlock ∨ v'.ownBlock = some W.heap.size) : OwnR E B T sz (xs ++ [x]) (cs ++ es) v' W' := by
  have hz := hg.size
  have hcl : cs.length = xs.length * sz := h.own.1
  have hel := hE.len hx
  have hD : ∀ b, OD B W v b → OD B W' v' b := fun b hd => ⟨hd.1, by have := hd.2.1; omega, by
    rcases hlie with e | e
    · rw [e]; exact hd.2.2
    · rw [e]; intro e2; have := Option.some.inj e2; have := hd.2.1; omega⟩
  have hk : ∀ b o, OD B W v b → W'.cell? ⟨b, o, none⟩ = W.cell? ⟨b, o, none⟩ := fun b o hd => World.cell?_of_block (a := ⟨b, o, none⟩) (hg.block b hd.2.1 (by first | exact hd.2.2 | exact fun e => hd.2.2 e.symm))
  refine ⟨by rw [List.length_append, List.length_singleton]; exact hown, fun i y hy => ?_⟩
  by_cases hi : i < xs.length
  · rw [List.getElem?_append_left hi] at hy
    obtain ⟨fs, hl, hc, hR⟩ := h.el i y hy
    refine ⟨fs, hl, fun k u hu => ?_, hE.step hD hk hR⟩
    have hkl : k < sz := by rw [← hl]; exact (List.getElem?_eq_some_iff.1 hu).1
    have : i * sz + sz ≤ xs.length * sz := by rw [← Nat.succ_mul]; exact Nat.mul_le_mul_right sz hi
    rw [List.getElem?_append_left (by omega)]
    exact hc k u hu
  · have hlt := (List.getElem?_eq_some_iff.1 hy).1
    rw [List.length_append, List.length_singleton] at hlt
    obtain rfl : i = xs.length := by omega
    rw [List.getElem?_append_right (Nat.le_refl _), Nat.sub_self] at hy
    simp at hy
    subst hy
    refine ⟨es, hel, fun k u hu => ?_, hE.step hD hk hx⟩
    rw [List.getElem?_append_right (by omega), hcl, Nat.add_sub_cancel_left]
    exact hu
/-- The row as it is handed back. -/
theorem OwnR.done {α : Type} {E : ElemR α} {B : Nat} {T : TypeId} {sz : Nat} (hE : ElemOk E sz) {xs : List α} {cs : List Value} {v : Value} {W : World} (h : OwnR E B T sz xs cs v W) (hx : xs.length ≤ 2000000) : RowD E sz W (fun b => B ≤ b ∧ b < W.heap.size) xs v := by
  obtain ⟨a, c, rfl, hc, hr⟩ := fresh_row h.own
  have hcl : cs.length = xs.length * sz := h.own.1
  refine ⟨a, c, rfl, hx, hc, fun hp => ?_⟩
  obtain ⟨g, e, hg1, hg2, _, hcell⟩ := hr hp
  refine ⟨g, 0, e, ⟨hg1, hg2⟩, fun i x hx => ?_⟩
  obtain ⟨es, hl, hce, hR⟩ := h.el i x hx
  have hi := (List.getElem?_eq_some_iff.1 hx).1
  refine ⟨es, hl, fun k u hu => ?_, hE.step (fun b hd => ⟨hd.1, hd.2.1⟩) (fun _ _ _ => rfl) hR⟩
  have hkl : k < sz := by rw [← hl]; exact (List.getElem?_eq_some_iff.1 hu).1
  have : i * sz + sz ≤ xs.length * sz := by rw [← Nat.succ_mul]; exact Nat.mul_le_mul_right sz hi
  rw [Nat.zero_add, hcell (i * sz + k) (by omega)]
  exact hce k u hu

end Go.Proofs.YtkfllppggjhhmaaGreatDoor
/-
  print's writer: what each of its writers keeps; how deep selections are.
-/
namespace Go.Proofs.YtkfllppggjhhmaaGreatDoor
open Go.RowKit

section
variable {I : Ws → Prop} (hI : ∀ t s, I s → I (wrT t s))
include hI
theorem wrs_k : ∀ (l : List (List UInt8)) (s : Ws), I s → I (wrs l s)
  | [], _, h => h
  | t :: r, s, h => wrs_k r _ (hI t s h)
theorem valW_k (x : JV) (s : Ws) (h : I s) : I (valW x s) := by
  unfold valW
  split
  · exact hI _ _ h
  · exact h
theorem svW_k {α : Type} {P : α → Ws → Ws} (hP : ∀ x s, I s → I (P x s)) (bt : List UInt8) : ∀ (fst : Bool) (l : List α) (s : Ws), I s → I (svW P bt fst l s)
  | _, [], _, h => h
  | fst, x :: r, s, h => by
    unfold svW
    split
    · exact h
    · refine svW_k hP bt false r _ (hP _ _ ?_)
      split
      · exact h
      · exact hI _ _ h
theorem brW_k {α : Type} {P : α → Ws → Ws} (hP : ∀ x s, I s → I (P x s)) (l : List α) (s : Ws) (h : I s) : I (brW P l s) := by
  unfold brW
  split
  · exact h
  · exact hI _ _ (svW_k hI hP _ _ _ _ (hI _ _ h))
theorem argW_k (a : ArgT) (s : Ws) (h : I s) : I (argW a s) := valW_k hI _ _ (wrs_k hI _ _ h)
theorem argsW_k (l : List ArgT) (s : Ws) (h : I s) : I (argsW l s) := brW_k hI (argW_k hI) _ _ h
theorem dirW_k (d : DirT) (s : Ws) (h : I s) : I (dirW d s) := argsW_k hI _ _ (wrs_k hI _ _ h)
theorem dirsW_k (l : List DirT) (s : Ws) (h : I s) : I (dirsW l s) := svW_k hI (dirW_k hI) _ _ _ _ h
theorem varW_k (v : VarT) (s : Ws) (h : I s) : I (varW v s) := by
  unfold varW
  split
  · exact wrs_k hI _ _ h
  · exact valW_k hI _ _ (wrs_k hI _ _ (wrs_k hI _ _ h))
theorem alW_k (al : Nm) (s : Ws) (h : I s) : I (alW al s) := by
  unfold alW
  split
  · exact h
  · exact wrs_k hI _ _ h
theorem onW_k (o : Nm) (s : Ws) (h : I s) : I (onW o s) := by
  unfold onW
  split
  · exact h
  · exact wrs_k hI _ _ h
theorem fldW_k {S : List SelT → Ws → Ws} (hS : ∀ l s, I s → I (S l s)) (x : SelT) (s : Ws) (h : I s) : I (fldW S x s) := by
  have h2 := dirsW_k hI x.dirs _ (argsW_k hI x.args _ (wrs_k hI [x.nm] _ (alW_k hI x.al s h)))
  unfold fldW
  split
  · exact h2
  · exact hS _ _ h2
theorem inlW_k {S : List SelT → Ws → Ws} (hS : ∀ l s, I s → I (S l s)) (x : SelT) (s : Ws) (h : I s) : I (inlW S x s) := hS _ _ (dirsW_k hI _ _ (onW_k hI _ _ (wrs_k hI _ _ h)))
theorem selW_k {S : List SelT → Ws → Ws} (hS : ∀ l s, I s → I (S l s)) (x : SelT) (s : Ws) (h : I s) : I (selW S x s) := by
  unfold selW
  split
  · exact fldW_k hI hS x s h
  · split
    · exact dirsW_k hI _ _ (wrs_k hI _ _ h)
    · split
      · exact inlW_k hI hS x s h
      · exact h
theorem setW_k : ∀ (n : Nat) (l : List SelT) (s : Ws), I s → I (setW n l s)
  | 0, _, _, h => wrs_k hI _ _ (wrs_k hI _ _ h)
  | n + 1, _, _, h => wrs_k hI _ _ (svW_k hI (selW_k hI (setW_k n)) _ _ _ _ (wrs_k hI _ _ h))
theorem opnW_k (n : Nm) (s : Ws) (h : I s) : I (opnW n s) := by
  unfold opnW
  split
  · exact h
  · exact wrs_k hI _ _ h
theorem opW_k (o : OpT) (s : Ws) (h : I s) : I (opW o s) := setW_k hI _ _ _ (dirsW_k hI _ _ (brW_k hI (varW_k hI) _ _ (opnW_k hI _ _ (wrs_k hI _ _ h))))
theorem fragW_k (f : FragT) (s : Ws) (h : I s) : I (fragW f s) := setW_k hI _ _ _ (dirsW_k hI _ _ (wrs_k hI _ _ h))
theorem midW_k (d : DocT) (s : Ws) (h : I s) : I (midW d s) := by
  unfold midW
  split
  · exact wrs_k hI _ _ h
  · exact h
theorem docW_k (d : DocT) (s : Ws) (h : I s) : I (docW d s) := svW_k hI (fragW_k hI) _ _ _ _ (midW_k hI _ _ (svW_k hI (opW_k hI) _ _ _ _ h))
end

/-- What is written stays. -/
def Mo (s0 s : Ws) : Prop := s0.out.length ≤ s.out.length
theorem mo_wr (s0 : Ws) (t : List UInt8) (s : Ws) (h : Mo s0 s) : Mo s0 (wrT t s) := by
  unfold wrT
  split
  · exact h
  · split
    · exact h
    · show _ ≤ (s.out ++ t).length
      rw [List.length_append]
      exact Nat.le_trans h (Nat.le_add_right _ _)
/-- No more than so many bytes are written, and there is room for. -/
def Cap (n : Nat) (s : Ws) : Prop := s.out.length + s.room ≤ n
theorem cap_wr (n : Nat) (t : List UInt8) (s : Ws) (h : Cap n s) : Cap n (wrT t s) := by
  unfold Cap at *
  unfold wrT
  split
  · exact h
  · split
    · exact h
    · show (s.out ++ t).length + (s.room - t.length) ≤ n
      rw [List.length_append]
      omega
/-! ### how deep -/
theorem RowD.elemM {α : Type} {E E' : ElemR α} {sz : Nat} {w : World} {D : Nat → Prop} {xs : List α} {v : Value} (h : RowD E sz w D xs v) (hE : ∀ x ∈ xs, ∀ cs, E w D x cs → E' w D x cs) : RowD E' sz w D xs v := by
  obtain ⟨a, cap, e, h1, h2, hr⟩ := h
  refine ⟨a, cap, e, h1, h2, fun hp => ?_⟩
  obtain ⟨g, off, e, hg, hc⟩ := hr hp
  refine ⟨g, off, e, hg, fun i x hx => ?_⟩
  obtain ⟨cs, hl, hcs, hR⟩ := hc i x hx
  exact ⟨cs, hl, hcs, hE x (List.mem_of_getElem? hx) cs hR⟩
theorem selE_dp {w : World} {D : Nat → Prop} : ∀ (m n : Nat) (xs : List SelT) (v : Value), dpS m xs = true → RowD (SelE n) 7 w D xs v → RowD (SelE m) 7 w D xs v
  | 0, n, xs, v, hd, h => by
    have : xs = [] := by simpa [dpS] using hd
    subst this
    exact h.elemM fun x hx => by cases hx
  | m + 1, n, xs, v, hd, h => by
    refine h.elemM fun x hx cs hE => ?_
    cases n with
    | zero => exact hE.elim
    | succ n =>
      obtain ⟨h1, va, vd, vs, e, ha, hd1, hs⟩ := hE
      exact ⟨h1, va, vd, vs, e, ha, hd1, selE_dp m n _ _ (List.all_eq_true.1 hd x hx) hs⟩

end Go.Proofs.YtkfllppggjhhmaaGreatDoor
