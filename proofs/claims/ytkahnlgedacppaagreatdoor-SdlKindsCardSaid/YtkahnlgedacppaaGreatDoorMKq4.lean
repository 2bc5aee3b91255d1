/-
  Documents in memory: what a slice of records holds, as plain lists; such a slice as it grows.
-/
import Derived.Test.YtkahnlgedacppaaGreatDoorMDm
import Derived.Test.YtkahnlgedacppaaGreatDoorMAw
import Derived.Test.YtkahnlgedacppaaGreatDoorMVs
namespace Go.Proofs.YtkahnlgedacppaaGreatDoor
open Go.RowKit

/-! ### what is read is a piece of what stood ahead -/
theorem tail_le {α : Type} (l : List α) : l.tail.length ≤ l.length := by rw [List.length_tail]; omega
theorem list_le (V : List Sk → VR) (hV : ∀ l, (V l).2.1.length ≤ l.length) : ∀ (n : Nat) (l : List Sk) (xs : List JV), (vListGo V n l xs).2.1.length ≤ l.length
  | 0, _, _ => Nat.le_refl _
  | n + 1, l, xs => by
    unfold vListGo
    split
    · exact tail_le l
    · split
      · exact Nat.le_trans (list_le V hV n _ _) (hV l)
      · exact hV l
theorem obj_le (V : List Sk → VR) (hV : ∀ l, (V l).2.1.length ≤ l.length) : ∀ (n : Nat) (l : List Sk) (ns : List ByteArray) (xs : List JV), (vObjGo V n l ns xs).2.1.length ≤ l.length
  | 0, _, _, _ => Nat.le_refl _
  | n + 1, l, ns, xs => by
    have h5 : l.tail.tail.length ≤ l.length := by rw [List.length_tail, List.length_tail]; omega
    unfold vObjGo
    split
    · exact tail_le l
    · split
      · split
        · split
          · exact Nat.le_trans (obj_le V hV n _ _ _) (Nat.le_trans (hV _) h5)
          · exact Nat.le_trans (hV _) h5
        · exact tail_le l
      · exact Nat.le_refl _
theorem pvT_le : ∀ (f : Nat) (l : List Sk), (pvT f l).2.1.length ≤ l.length
  | 0, l => by
    unfold pvT
    split
    · exact tail_le l
    · split
      · exact Nat.le_trans (var_le _) (tail_le l)
      · split <;> exact Nat.le_refl _
  | f + 1, l => by
    unfold pvT
    split
    · exact tail_le l
    · split
      · exact Nat.le_trans (var_le _) (tail_le l)
      · split
        · exact Nat.le_trans (list_le _ (pvT_le f) _ _ _) (tail_le l)
        · split
          · exact Nat.le_trans (obj_le _ (pvT_le f) _ _ _ _) (tail_le l)
          · exact Nat.le_refl _
theorem opensL_le : ∀ (k : Nat) (l : List Sk), (opensL k l).length ≤ l.length
  | 0, _ => Nat.le_refl _
  | k + 1, l => by
    unfold opensL
    split
    · exact Nat.le_trans (opensL_le k _) (tail_le l)
    · exact Nat.le_refl _
theorem bang_le (l : List Sk) : (bangP l).2.length ≤ l.length := by
  unfold bangP
  split
  · exact tail_le l
  · exact Nat.le_refl _
theorem tyEnds_le : ∀ (n : Nat) (l : List Sk) (ws : List UInt8) (q : List UInt8 × List Sk), tyEnds n l ws = some q → q.2.length ≤ l.length
  | 0, l, ws, q, h => by
    unfold tyEnds at h
    injection h with h
    rw [← h]; exact Nat.le_refl _
  | n + 1, l, ws, q, h => by
    unfold tyEnds at h
    split at h
    · exact Nat.le_trans (tyEnds_le n _ _ q h) (Nat.le_trans (bang_le _) (tail_le l))
    · cases h
theorem type_le {l : List Sk} {nm ws : List UInt8} {r : List Sk} (h : typeP l = some (nm, ws, r)) : r.length ≤ l.length := by
  unfold typeP at h
  split at h
  · cases ht : tyEnds (opensN 12 l) (bangP (opensL 12 l).tail).2 (bangP (opensL 12 l).tail).1 with
    | none => rw [ht] at h; cases h
    | some q =>
      rw [ht] at h
      injection h with h
      have h2 := tyEnds_le _ _ _ _ ht
      rw [show r = q.2 from (congrArg (fun x => x.2.2) h).symm]
      exact Nat.le_trans h2 (Nat.le_trans (bang_le _) (Nat.le_trans (tail_le _) (opensL_le 12 l)))
  · cases h

/-! ### records -/
abbrev ElemR (α : Type) := World → (Nat → Prop) → α → List Value → Prop
/-- A slice of records of sz cells each reads as xs, through blocks that D names. -/
def RowD {α : Type} (E : ElemR α) (sz : Nat) (w : World) (D : Nat → Prop) (xs : List α) (v : Value) : Prop :=
  ∃ a cap, v = .slice a xs.length cap ∧ xs.length ≤ 2000000 ∧ xs.length ≤ cap ∧ (0 < xs.length → ∃ g off, a = some ⟨g, off, none⟩ ∧ D g ∧
    ∀ i x, xs[i]? = some x → ∃ cs : List Value, cs.length = sz ∧ (∀ k u, cs[k]? = some u → w.cell? ⟨g, off + i * sz + k, none⟩ = some u) ∧ E w D x cs)
/-- What holds of a record's cells where nothing that it reads has changed; how many cells it has. -/
structure ElemOk {α : Type} (E : ElemR α) (sz : Nat) : Prop where
  step : ∀ {w w' : World} {D D' : Nat → Prop} {x : α} {cs : List Value}, (∀ b, D b → D' b) → (∀ b o, D b → w'.cell? ⟨b, o, none⟩ = w.cell? ⟨b, o, none⟩) → E w D x cs → E w' D' x cs
  len : ∀ {w : World} {D : Nat → Prop} {x : α} {cs : List Value}, E w D x cs → cs.length = sz
  one : ∀ {w : World} {D : Nat → Prop} {x : α} {cs : List Value}, E w D x cs → ∀ u ∈ cs, u.oneCell' = true

theorem RowD.step {α : Type} {E : ElemR α} {sz : Nat} (hE : ElemOk E sz) {w w' : World} {D D' : Nat → Prop} {xs : List α} {v : Value} (hD : ∀ b, D b → D' b) (hk : ∀ b o, D b → w'.cell? ⟨b, o, none⟩ = w.cell? ⟨b, o, none⟩)
    (h : RowD E sz w D xs v) : RowD E sz w' D' xs v := by
  obtain ⟨a, cap, e, h1, h2, hr⟩ := h
  refine ⟨a, cap, e, h1, h2, fun hp => ?_⟩
  obtain ⟨g, off, e, hg, hc⟩ := hr hp
  refine ⟨g, off, e, hD g hg, fun i x hx => ?_⟩
  obtain ⟨cs, hl, hcs, hR⟩ := hc i x hx
  exact ⟨cs, hl, fun k u hu => (hk g _ hg).trans (hcs k u hu), hE.step hD hk hR⟩
theorem RowD.nil {α : Type} {E : ElemR α} {sz : Nat} {w : World} {D : Nat → Prop} : RowD E sz w D [] (.slice none 0 0) := ⟨none, 0, rfl, Nat.zero_le _, Nat.le_refl _, fun h => absurd h (Nat.lt_irrefl 0)⟩
theorem RowD.shape {α : Type} {E : ElemR α} {sz : Nat} {w : World} {D : Nat → Prop} {xs : List α} {v : Value} (h : RowD E sz w D xs v) : ∃ a cap, v = .slice a xs.length cap := by
  obtain ⟨a, cap, e, _⟩ := h
  exact ⟨a, cap, e⟩

/-- A value of whatever depth. -/
def RdX (w : World) (D : Nat → Prop) (x : JV) (v : Value) : Prop := ∃ n, RdD w D n x v
theorem RdX.step {w w' : World} {D D' : Nat → Prop} {x : JV} {v : Value} (hD : ∀ b, D b → D' b) (hk : ∀ b o, D b → w'.cell? ⟨b, o, none⟩ = w.cell? ⟨b, o, none⟩) (h : RdX w D x v) : RdX w' D' x v := by
  obtain ⟨n, h⟩ := h
  exact ⟨n, RdD.step hD hk h⟩
theorem RdX.shape {w : World} {D : Nat → Prop} {x : JV} {v : Value} (h : RdX w D x v) : ∃ an cn ap cp, v = .agg #[.int .i64 x.k, .string x.s, .slice an x.ns.length cn, .slice ap x.ps.length cp] := by
  obtain ⟨n, h⟩ := h
  exact h.shape
def ArgE : ElemR ArgT := fun w D x cs => (x.1.length ≤ 2000000 ∧ VS x.2) ∧ ∃ c0 c1 c2 c3, cs = [.string ⟨x.1.toArray⟩, c0, c1, c2, c3] ∧ RdX w D x.2 (.agg #[c0, c1, c2, c3])
def DirE : ElemR DirT := fun w D x cs => x.1.length ≤ 2000000 ∧ ∃ v, cs = [.string ⟨x.1.toArray⟩, v] ∧ RowD ArgE 5 w D x.2 v
def SelE : Nat → ElemR SelT
  | 0 => fun _ _ _ _ => False
  | n + 1 => fun w D x cs => (x.al.length ≤ 2000000 ∧ x.nm.length ≤ 2000000 ∧ x.on_.length ≤ 2000000) ∧ ∃ va vd vs, cs = [.int .i64 (x.k : Int), .string ⟨x.al.toArray⟩, .string ⟨x.nm.toArray⟩, .string ⟨x.on_.toArray⟩, va, vd, vs] ∧ RowD ArgE 5 w D x.args va ∧ RowD DirE 2 w D x.dirs vd ∧ RowD (SelE n) 7 w D x.sels vs
def VarE : ElemR VarT := fun w D x cs => (x.nm.length ≤ 2000000 ∧ x.ty.1.length ≤ 2000000 ∧ x.ty.2.length ≤ 2000000 ∧ VS x.dflt) ∧ ∃ c0 c1 c2 c3, cs = [.string ⟨x.nm.toArray⟩, .string ⟨x.ty.1.toArray⟩, .string ⟨x.ty.2.toArray⟩, c0, c1, c2, c3] ∧ RdX w D x.dflt (.agg #[c0, c1, c2, c3])
/-- Selections of whatever depth. -/
def SelsX (w : World) (D : Nat → Prop) (xs : List SelT) (v : Value) : Prop := ∃ n, RowD (SelE n) 7 w D xs v
def OpE : ElemR OpT := fun w D x cs => x.nm.length ≤ 2000000 ∧ ∃ vv vd vs, cs = [.bool x.mut_, .string ⟨x.nm.toArray⟩, vv, vd, vs] ∧ RowD VarE 7 w D x.vars vv ∧ RowD DirE 2 w D x.dirs vd ∧ SelsX w D x.sels vs
def FragE : ElemR FragT := fun w D x cs => (x.nm.length ≤ 2000000 ∧ x.on_.length ≤ 2000000) ∧ ∃ vd vs, cs = [.string ⟨x.nm.toArray⟩, .string ⟨x.on_.toArray⟩, vd, vs] ∧ RowD DirE 2 w D x.dirs vd ∧ SelsX w D x.sels vs
def DocE (w : World) (D : Nat → Prop) (x : DocT) (v : Value) : Prop := ∃ vo vf, v = .agg #[vo, vf] ∧ RowD OpE 5 w D x.ops vo ∧ RowD FragE 4 w D x.frags vf

theorem rd_one {w : World} {D : Nat → Prop} {n : Nat} {x : JV} {c0 c1 c2 c3 : Value} (h : RdD w D n x (.agg #[c0, c1, c2, c3])) : c0.oneCell' = true ∧ c1.oneCell' = true ∧ c2.oneCell' = true ∧ c3.oneCell' = true := by
  obtain ⟨an, cn, ap, cp, e⟩ := h.shape
  injection e with e
  have e' := congrArg Array.toList e
  simp at e'
  obtain ⟨rfl, rfl, rfl, rfl⟩ := e'
  exact ⟨rfl, rfl, rfl, rfl⟩
theorem rdx_one {w : World} {D : Nat → Prop} {x : JV} {c0 c1 c2 c3 : Value} (h : RdX w D x (.agg #[c0, c1, c2, c3])) : c0.oneCell' = true ∧ c1.oneCell' = true ∧ c2.oneCell' = true ∧ c3.oneCell' = true := by
  obtain ⟨n, h⟩ := h
  exact rd_one h
theorem row_one {α : Type} {E : ElemR α} {sz : Nat} {w : World} {D : Nat → Prop} {xs : List α} {v : Value} (h : RowD E sz w D xs v) : v.oneCell' = true := by
  obtain ⟨a, cap, rfl⟩ := h.shape
  rfl
theorem argOk : ElemOk ArgE 5 := by
  refine ⟨fun hD hk h => ?_, fun h => ?_, fun h => ?_⟩
  · obtain ⟨h1, c0, c1, c2, c3, e, hR⟩ := h
    exact ⟨h1, c0, c1, c2, c3, e, RdX.step hD hk hR⟩
  · obtain ⟨_, c0, c1, c2, c3, rfl, _⟩ := h; rfl
  · obtain ⟨_, c0, c1, c2, c3, rfl, hR⟩ := h
    obtain ⟨o0, o1, o2, o3⟩ := rdx_one hR
    intro u hu
    simp at hu
    rcases hu with rfl | rfl | rfl | rfl | rfl
    · rfl
    · exact o0
    · exact o1
    · exact o2
    · exact o3
theorem dirOk : ElemOk DirE 2 := by
  refine ⟨fun hD hk h => ?_, fun h => ?_, fun h => ?_⟩
  · obtain ⟨h1, v, e, hR⟩ := h
    exact ⟨h1, v, e, RowD.step argOk hD hk hR⟩
  · obtain ⟨_, v, rfl, _⟩ := h; rfl
  · obtain ⟨_, v, rfl, hR⟩ := h
    intro u hu
    simp at hu
    rcases hu with rfl | rfl
    · rfl
    · exact row_one hR
theorem selOk : ∀ n, ElemOk (SelE n) 7
  | 0 => ⟨fun _ _ h => h.elim, fun h => h.elim, fun h => h.elim⟩
  | n + 1 => by
    refine ⟨fun hD hk h => ?_, fun h => ?_, fun h => ?_⟩
    · obtain ⟨h1, va, vd, vs, e, ha, hd, hs⟩ := h
      exact ⟨h1, va, vd, vs, e, RowD.step argOk hD hk ha, RowD.step dirOk hD hk hd, RowD.step (selOk n) hD hk hs⟩
    · obtain ⟨_, va, vd, vs, rfl, _⟩ := h; rfl
    · obtain ⟨_, va, vd, vs, rfl, ha, hd, hs⟩ := h
      intro u hu
      simp at hu
      rcases hu with rfl | rfl | rfl | rfl | rfl | rfl | rfl
      · rfl
      · rfl
      · rfl
      · rfl
      · exact row_one ha
      · exact row_one hd
      · exact row_one hs
theorem varOk : ElemOk VarE 7 := by
  refine ⟨fun hD hk h => ?_, fun h => ?_, fun h => ?_⟩
  · obtain ⟨h1, c0, c1, c2, c3, e, hR⟩ := h
    exact ⟨h1, c0, c1, c2, c3, e, RdX.step hD hk hR⟩
  · obtain ⟨_, c0, c1, c2, c3, rfl, _⟩ := h; rfl
  · obtain ⟨_, c0, c1, c2, c3, rfl, hR⟩ := h
    obtain ⟨o0, o1, o2, o3⟩ := rdx_one hR
    intro u hu
    simp at hu
    rcases hu with rfl | rfl | rfl | rfl | rfl | rfl | rfl
    · rfl
    · rfl
    · rfl
    · exact o0
    · exact o1
    · exact o2
    · exact o3
theorem SelsX.step {w w' : World} {D D' : Nat → Prop} {xs : List SelT} {v : Value} (hD : ∀ b, D b → D' b) (hk : ∀ b o, D b → w'.cell? ⟨b, o, none⟩ = w.cell? ⟨b, o, none⟩) (h : SelsX w D xs v) : SelsX w' D' xs v := by
  obtain ⟨n, h⟩ := h
  exact ⟨n, RowD.step (selOk n) hD hk h⟩
theorem SelsX.shape {w : World} {D : Nat → Prop} {xs : List SelT} {v : Value} (h : SelsX w D xs v) : ∃ a cap, v = .slice a xs.length cap := by
  obtain ⟨n, h⟩ := h
  exact h.shape
theorem sels_one {w : World} {D : Nat → Prop} {xs : List SelT} {v : Value} (h : SelsX w D xs v) : v.oneCell' = true := by
  obtain ⟨a, cap, rfl⟩ := h.shape
  rfl
theorem opOk : ElemOk OpE 5 := by
  refine ⟨fun hD hk h => ?_, fun h => ?_, fun h => ?_⟩
  · obtain ⟨h1, vv, vd, vs, e, hv, hd, hs⟩ := h
    exact ⟨h1, vv, vd, vs, e, RowD.step varOk hD hk hv, RowD.step dirOk hD hk hd, SelsX.step hD hk hs⟩
  · obtain ⟨_, vv, vd, vs, rfl, _⟩ := h; rfl
  · obtain ⟨_, vv, vd, vs, rfl, hv, hd, hs⟩ := h
    intro u hu
    simp at hu
    rcases hu with rfl | rfl | rfl | rfl | rfl
    · rfl
    · rfl
    · exact row_one hv
    · exact row_one hd
    · exact sels_one hs
theorem fragOk : ElemOk FragE 4 := by
  refine ⟨fun hD hk h => ?_, fun h => ?_, fun h => ?_⟩
  · obtain ⟨h1, vd, vs, e, hd, hs⟩ := h
    exact ⟨h1, vd, vs, e, RowD.step dirOk hD hk hd, SelsX.step hD hk hs⟩
  · obtain ⟨_, vd, vs, rfl, _⟩ := h; rfl
  · obtain ⟨_, vd, vs, rfl, hd, hs⟩ := h
    intro u hu
    simp at hu
    rcases hu with rfl | rfl | rfl | rfl
    · rfl
    · rfl
    · exact row_one hd
    · exact sels_one hs
theorem DocE.step {w w' : World} {D D' : Nat → Prop} {x : DocT} {v : Value} (hD : ∀ b, D b → D' b) (hk : ∀ b o, D b → w'.cell? ⟨b, o, none⟩ = w.cell? ⟨b, o, none⟩) (h : DocE w D x v) : DocE w' D' x v := by
  obtain ⟨vo, vf, e, ho, hf⟩ := h
  exact ⟨vo, vf, e, RowD.step opOk hD hk ho, RowD.step fragOk hD hk hf⟩

/-! ### a row as it grows -/
def OD (B : Nat) (W : World) (v : Value) (b : Nat) : Prop := B ≤ b ∧ b < W.heap.size ∧ v.ownBlock ≠ some b
structure OwnR {α : Type} (E : ElemR α) (B : Nat) (T : TypeId) (sz : Nat) (xs : List α) (cs : List Value) (v : Value) (W : World) : Prop where
  own : W.ownsRow B T sz v xs.length cs
  el : ∀ i x, xs[i]? = some x → ∃ es, es.length = sz ∧ (∀ k u, es[k]? = some u → cs[i * sz + k]? = some u) ∧ E W (OD B W v) x es

theorem OwnR.nil {α : Type} {E : ElemR α} {B : Nat} {T : TypeId} {sz : Nat} {W : World} : OwnR E B T sz [] [] (.slice none 0 0) W := ⟨World.ownsRow_nil _ _ _ _, fun i x hx => by simp at hx⟩
/-- Nothing from B on has changed but what is new (and what lies in another block than any of the row's). -/
theorem OwnR.keep {α : Type} {E : ElemR α} {B : Nat} {T : TypeId} {sz : Nat} (hE : ElemOk E sz) {xs : List α} {cs : List Value} {v : Value} {W W' : World} (h : OwnR E B T sz xs cs v W)
    (hb : ∀ b, B ≤ b → b < W.heap.size → W'.heap[b]? = W.heap[b]?) (hs : W.heap.size ≤ W'.heap.size) : OwnR E B T sz xs cs v W' := by
  refine ⟨ownsRow_block h.own (fun g e => ?_), fun i x hx => ?_⟩
  · have := h.own.lt g e
    exact hb g this.1 this.2
  · obtain ⟨es, hl, hc, hR⟩ := h.el i x hx
    exact ⟨es, hl, hc, hE.step (fun b hd => ⟨hd.1, by have := hd.2.1; omega, hd.2.2⟩) (fun b o hd => World.cell?_of_block (a := ⟨b, o, none⟩) (hb b hd.1 hd.2.1)) hR⟩
/-- One more record. -/
theorem OwnR.snoc {α : Type} {E : ElemR α} {B : Nat} {T : TypeId} {sz : Nat} (hE : ElemOk E sz) {xs : List α} {cs : List Value} {v v' : Value} {W W' : World} {x : α} {es : List Value} (h : OwnR E B T sz xs cs v W)
    (hx : E W (OD B W v) x es) (hown : W'.ownsRow B T sz v' (xs.length + 1) (cs ++ es)) (hg : W.grownBy W' v.ownBlock) (hlie : v'.ownBlock = v.ownBlock ∨ v'.ownBlock = some W.heap.size) : OwnR E B T sz (xs ++ [x]) (cs ++ es) v' W' := by
  have hz := hg.size
  have hcl : cs.length = xs.length * sz := h.own.1
  have hel := hE.len hx
  have hD : ∀ b, OD B W v b → OD B W' v' b := fun b hd => ⟨hd.1, by have := hd.2.1; omega, by
    rcases hlie with e | e
    · rw [e]; exact hd.2.2
    · rw [e]; intro e2; have := Option.some.inj e2; have := hd.2.1; omega⟩
  have hk : ∀ b o, OD B W v b → W'.cell? ⟨b, o, none⟩ = W.cell? ⟨b, o, none⟩ := fun b o hd => World.cell?_of_block (a := ⟨b, o, none⟩) (hg.block b hd.2.1 (by first | exact hd.2.2 | exact fun e => hd.2.2 e.symm))
  refine ⟨by rw [List.length_append, List.length_singleton]; exact hown, fun i y hy => ?_⟩
  by_cases hi : i < xs.length
  · rw [List.getElem?_append_left hi] at hy
    obtain ⟨fs, hl, hc, hR⟩ := h.el i y hy
    refine ⟨fs, hl, fun k u hu => ?_, hE.step hD hk hR⟩
    have hkl : k < sz := by rw [← hl]; exact (List.getElem?_eq_some_iff.1 hu).1
    have : i * sz + sz ≤ xs.length * sz := by rw [← Nat.succ_mul]; exact Nat.mul_le_mul_right sz hi
    rw [List.getElem?_append_left (by omega)]
    exact hc k u hu
  · have hlt := (List.getElem?_eq_some_iff.1 hy).1
    rw [List.length_append, List.length_singleton] at hlt
    obtain rfl : i = xs.length := by omega
    rw [List.getElem?_append_right (Nat.le_refl _), Nat.sub_self] at hy
    simp at hy
    subst hy
    refine ⟨es, hel, fun k u hu => ?_, hE.step hD hk hx⟩
    rw [List.getElem?_append_right (by omega), hcl, Nat.add_sub_cancel_left]
    exact hu
/-- The row as it is handed back. -/
theorem OwnR.done {α : Type} {E : ElemR α} {B : Nat} {T : TypeId} {sz : Nat} (hE : ElemOk E sz) {xs : List α} {cs : List Value} {v : Value} {W : World} (h : OwnR E B T sz xs cs v W) (hx : xs.length ≤ 2000000) : RowD E sz W (fun b => B ≤ b ∧ b < W.heap.size) xs v := by
  obtain ⟨a, c, rfl, hc, hr⟩ := fresh_row h.own
  have hcl : cs.length = xs.length * sz := h.own.1
  refine ⟨a, c, rfl, hx, hc, fun hp => ?_⟩
  obtain ⟨g, e, hg1, hg2, _, hcell⟩ := hr hp
  refine ⟨g, 0, e, ⟨hg1, hg2⟩, fun i x hx => ?_⟩
  obtain ⟨es, hl, hce, hR⟩ := h.el i x hx
  have hi := (List.getElem?_eq_some_iff.1 hx).1
  refine ⟨es, hl, fun k u hu => ?_, hE.step (fun b hd => ⟨hd.1, hd.2.1⟩) (fun _ _ _ => rfl) hR⟩
  have hkl : k < sz := by rw [← hl]; exact (List.getElem?_eq_some_iff.1 hu).1
  have : i * sz + sz ≤ xs.length * sz := by rw [← Nat.succ_mul]; exact Nat.mul_le_mul_right sz hi
  rw [Nat.zero_add, hcell (i * sz + k) (by omega)]
  exact hce k u hu

end Go.Proofs.YtkahnlgedacppaaGreatDoor
/-
  The cursor: a sign, a word, a name that must stand next.
-/
namespace Go.Proofs.YtkahnlgedacppaaGreatDoor
open Go.RowKit

theorem Pw.trans {c : Cx} {k k2 : Nat} {s s2 : Ms} {w w1 w2 : World} (h : Pw c k s w w1) (h2 : Pw c k2 s2 w1 w2) : Pw c k2 s2 w w2 := ⟨h2.1, h.2.trans (h2.2.mono h.2.size)⟩
theorem Pw.below {c : Cx} {k : Nat} {s : Ms} {w w1 w2 : World} (h : Pw c k s w w1) (hb : Below w1.heap.size w1 w2) : Pw c k s w w2 := ⟨h.1.below hb h.1.hN, h.2.trans (.of (hb.mono h.2.size))⟩
theorem Pw.refl {c : Cx} {k : Nat} {s : Ms} {w : World} (h : Pv c k s w) : Pw c k s w w := .of h (Below.refl _ _)

set_option maxHeartbeats 2000000 in
set_option maxRecDepth 100000 in
theorem pMust_any {c : Cx} {k : Nat} {s : Ms} (g : List UInt8) (w : World) (h : Pv c k s w) : Calls Tryz.prog 135 #[.pointer (some ⟨c.R, 0, none⟩), .string ⟨g.toArray⟩] w fun e w' => e = .returned (.tuple #[]) ∧ Pw c k (sgM c.z g s) w w' := by
  have HT := pTakeSign_any g w h
  have HM := Lib.hid (show sgM c.z g s = if isSg g (hdT s.l) then tlM s else failM c.z 2 s from rfl)
  clear h
  cases hi : isSg g (hdT s.l) with
  | true =>
    rw [hi] at HT HM
    clear hi
    go_enter Tryz.func135, Tryz.ntmps135
    go_wp2_with fail
    refine HT.mono ?_
    rintro e w1 ⟨rfl, hp⟩
    go_wp2_with fail
    go_end0
    rw [HM.out]
    exact ⟨rfl, hp⟩
  | false =>
    rw [hi] at HT HM
    clear hi
    go_enter Tryz.func135, Tryz.ntmps135
    go_wp2_with fail
    refine HT.mono ?_
    rintro e w1 ⟨rfl, hp⟩
    rw [if_neg (by decide)] at hp
    have HF := pFail_any 2 w1 hp.1
    go_wp2_with fail
    refine HF.mono ?_
    rintro e w2 ⟨rfl, hp2⟩
    go_wp2_with fail
    go_end0
    rw [HM.out]
    exact ⟨rfl, hp.trans hp2⟩

set_option maxHeartbeats 2000000 in
set_option maxRecDepth 100000 in
theorem pMustWord_any {c : Cx} {k : Nat} {s : Ms} (g : List UInt8) (hg : g ≠ []) (w : World) (h : Pv c k s w) : Calls Tryz.prog 136 #[.pointer (some ⟨c.R, 0, none⟩), .string ⟨g.toArray⟩] w fun e w' => e = .returned (.tuple #[]) ∧ Pw c k (wdM c.z g s) w w' := by
  have HT := pTakeWord_any g hg w h
  have HM := Lib.hid (show wdM c.z g s = if isWd g (hdT s.l) then tlM s else failM c.z 2 s from rfl)
  clear h
  cases hi : isWd g (hdT s.l) with
  | true =>
    rw [hi] at HT HM
    clear hi
    go_enter Tryz.func136, Tryz.ntmps136
    go_wp2_with fail
    refine HT.mono ?_
    rintro e w1 ⟨rfl, hp⟩
    go_wp2_with fail
    go_end0
    rw [HM.out]
    exact ⟨rfl, hp⟩
  | false =>
    rw [hi] at HT HM
    clear hi
    go_enter Tryz.func136, Tryz.ntmps136
    go_wp2_with fail
    refine HT.mono ?_
    rintro e w1 ⟨rfl, hp⟩
    rw [if_neg (by decide)] at hp
    have HF := pFail_any 2 w1 hp.1
    go_wp2_with fail
    refine HF.mono ?_
    rintro e w2 ⟨rfl, hp2⟩
    go_wp2_with fail
    go_end0
    rw [HM.out]
    exact ⟨rfl, hp.trans hp2⟩

theorem hdT_size {c : Cx} {k : Nat} {s : Ms} {w : World} (h : Pv c k s w) : (hdT s.l).s.length ≤ 2000000 := by
  obtain ⟨m, p, _, hp, hm, hl⟩ := h.bk
  rcases h.tok hp hm hl with ⟨_, e⟩ | ⟨_, t, _, e, _, _, _, _, hz, _⟩
  · rw [e]; decide
  · rw [e]; exact Nat.le_trans hz (by decide)
theorem nmM_size {c : Cx} {k : Nat} {s : Ms} {w : World} (h : Pv c k s w) : (nmM c.z s).1.length ≤ 2000000 := by
  unfold nmM
  split
  · exact hdT_size h
  · exact Nat.zero_le _

/-! ### how long a type is that has been read -/
theorem mem_opensLQ (x : Sk) : ∀ (k : Nat) (l : List Sk), x ∈ opensL k l → x ∈ l
  | 0, _, h => h
  | k + 1, l, h => by
    unfold opensL at h
    split at h
    · exact List.mem_of_mem_tail (mem_opensLQ x k _ h)
    · exact h
theorem hdK_memQ {l : List Sk} (h : (hdK l).1 = 1) : hdK l ∈ l := by
  cases l with
  | nil => exact absurd h (by decide)
  | cons a r => exact List.mem_cons_self ..
theorem bang_lenQ (l : List Sk) : (bangP l).1.length ≤ 1 := by
  unfold bangP
  split
  · exact Nat.le_refl 1
  · exact Nat.zero_le 1
theorem tyEnds_lenQ : ∀ (n : Nat) (l : List Sk) (ws : List UInt8) (q : List UInt8 × List Sk), tyEnds n l ws = some q → q.1.length ≤ ws.length + 2 * n
  | 0, l, ws, q, h => by
    unfold tyEnds at h
    injection h with h
    rw [← h]; exact Nat.le_refl _
  | n + 1, l, ws, q, h => by
    unfold tyEnds at h
    split at h
    · have h1 := tyEnds_lenQ n _ _ q h
      have h2 := bang_lenQ l.tail
      rw [List.length_append, List.length_cons] at h1
      omega
    · cases h
theorem type_lenQ {l : List Sk} {nm ws : List UInt8} {r : List Sk} (h : typeP l = some (nm, ws, r)) : (∃ t ∈ l, t.2 = nm) ∧ ws.length ≤ 100 := by
  unfold typeP at h
  split at h
  · rename_i h1
    cases ht : tyEnds (opensN 12 l) (bangP (opensL 12 l).tail).2 (bangP (opensL 12 l).tail).1 with
    | none => rw [ht] at h; cases h
    | some q =>
      rw [ht] at h
      injection h with h
      have h2 := tyEnds_lenQ _ _ _ _ ht
      have h3 := bang_lenQ (opensL 12 l).tail
      have h4 := opens_le 12 l
      refine ⟨⟨hdK (opensL 12 l), mem_opensLQ _ _ _ (hdK_memQ h1), congrArg (fun x => x.1) h⟩, ?_⟩
      rw [show ws = q.1 from (congrArg (fun x => x.2.1) h).symm]
      omega
  · cases h
theorem Pv.mem {c : Cx} {k : Nat} {s : Ms} {w : World} (h : Pv c k s w) : ∀ t ∈ s.l, t.s.length ≤ 1000000 := fun t ht => by
  obtain ⟨m, p, _, _, _, hl⟩ := h.bk
  rw [← hl] at ht
  exact h.sz t (List.mem_of_mem_take (List.mem_of_mem_drop ht))
theorem Pv.llen {c : Cx} {k : Nat} {s : Ms} {w : World} (h : Pv c k s w) : s.l.length ≤ 8000 := by
  obtain ⟨m, p, _, _, _, hl⟩ := h.bk
  have := h.hs
  rw [← hl, List.length_drop, List.length_take]
  omega
theorem vaM_small (z : Nat) (m : List Tk) (s : Ms) (hm : ∀ t ∈ m, t.s.length ≤ 1000000) (hl : m.length ≤ 10000) : VS (vaM z m s).1 := by
  unfold vaM
  dsimp only
  split
  · rename_i h
    refine pvT_small 12 (m.map strip) (by rw [List.length_map]; exact hl) (fun t ht => ?_) h
    obtain ⟨u, hu, rfl⟩ := List.mem_map.1 ht
    exact hm u hu
  · exact vs_vz
theorem dfltM_small {c : Cx} {k : Nat} {s : Ms} {w : World} (h : Pv c k s w) : VS (dfltM c.z s).1 := by
  unfold dfltM
  split
  · have h1 : ∀ t ∈ (tlM s).l.takeWhile notVar, t ∈ s.l := fun t ht => List.mem_of_mem_tail ((List.takeWhile_sublist _).mem ht)
    refine vaM_small _ _ _ (fun t ht => h.mem t (h1 t ht)) ?_
    have h2 := (List.takeWhile_sublist (l := (tlM s).l) notVar).length_le
    have h3 : (tlM s).l.length ≤ s.l.length := by show s.l.tail.length ≤ _; rw [List.length_tail]; omega
    have := h.llen
    omega
  · exact vs_vz
theorem tyM_size {c : Cx} {k : Nat} {s : Ms} {w : World} (h : Pv c k s w) : (tyM c.z s).1.1.length ≤ 2000000 ∧ (tyM c.z s).1.2.length ≤ 2000000 := by
  unfold tyM
  split
  · rename_i n ws r he
    obtain ⟨⟨t, ht, e⟩, h2⟩ := type_lenQ he
    obtain ⟨u, hu, rfl⟩ := List.mem_map.1 ht
    refine ⟨?_, Nat.le_trans h2 (by decide)⟩
    show n.length ≤ _
    rw [← e]
    exact Nat.le_trans (h.mem u hu) (by decide)
  · exact ⟨Nat.zero_le _, Nat.zero_le _⟩

theorem nxN_size {c : Cx} {k : Nat} {s : Ms} {w : World} (h : Pv c k s w) : (nxN (hdT s.l)).length ≤ 2000000 := by
  unfold nxN
  split
  · exact hdT_size h
  · exact Nat.zero_le _
/-- Passed, beside the box of a token. -/
theorem cPass_box {c : Cx} {k : Nat} {s : Ms} {w0 : World} (h0 : Pv c k s w0) (t : Tk) (x b : Bool) (w1 : World) (hw : Below w0.heap.size w0 w1) (e : x = b) (hb : b = true → (hdT s.l).k ≠ 0) :
    Calls Tryz.prog 184 #[.pointer (some ⟨c.R, 0, none⟩), .bool x] (w1.alloc (.cells #[.int .i64 t.k, .string ⟨t.s.toArray⟩, .int .i64 t.at_] 197)) fun e w' => e = .returned (.bool b) ∧ Pw c k (if b then tlM s else s) w0 w' ∧ w'.cell? ⟨w1.heap.size, 1, none⟩ = some (.string ⟨t.s.toArray⟩) ∧ w1.heap.size < w'.heap.size := by
  subst e
  have hbA := hw.alloc hw.size (.cells #[.int .i64 t.k, .string ⟨t.s.toArray⟩, .int .i64 t.at_] 197)
  have hbx : (w1.alloc (.cells #[.int .i64 t.k, .string ⟨t.s.toArray⟩, .int .i64 t.at_] 197)).heap[w1.heap.size]? = some (.cells #[.int .i64 t.k, .string ⟨t.s.toArray⟩, .int .i64 t.at_] 197 (0, 0)) := heap_alloc_new _ _
  have hsz : (w1.alloc (.cells #[.int .i64 t.k, .string ⟨t.s.toArray⟩, .int .i64 t.at_] 197)).heap.size = w1.heap.size + 1 := by simp
  refine (cPass_any x _ (h0.below hbA h0.hN) hb).mono ?_
  rintro e w2 ⟨rfl, hp⟩
  have hR := h0.hR
  have hN := h0.hN
  have hs1 := hw.size
  have h2 := (hp.2.block w1.heap.size (by omega) (by omega)).trans hbx
  refine ⟨rfl, ⟨hp.1, (Aw.of hbA).trans (hp.2.mono hbA.size)⟩, Lib.cell_of_heap h2 1, (Array.getElem?_eq_some_iff.1 h2).1⟩

set_option maxHeartbeats 2000000 in
set_option maxRecDepth 100000 in
/-- What a token of kind n says that must stand there. -/
theorem cMust_any {c : Cx} {k : Nat} {s : Ms} (n : Nat) (hn : n ≠ 0) (w : World) (h : Pv c k s w) : Calls Tryz.prog 183 #[.pointer (some ⟨c.R, 0, none⟩), .int .i64 (n : Int)] w fun e w' => e = .returned (.string ⟨(muM c.z n s).1.toArray⟩) ∧ Pw c k (muM c.z n s).2 w w' := by
  have HT := ptoken_any w h
  have HM := Lib.hid (show muM c.z n s = if (hdT s.l).k = n then ((hdT s.l).s, tlM s) else ([], failM c.z 2 s) from rfl)
  have HH := Lib.hid h
  have HE := Lib.hid (kBeq (hdT s.l).k n)
  by_cases hk : (hdT s.l).k = n
  · rw [if_pos hk] at HM
    have hk5 : (hdT s.l).k ≠ 0 := by rw [hk]; exact hn
    have HBB := Lib.hid (show ((hdT s.l).k == n) = true by simpa using hk)
    have HP1 := Lib.hid (fun w1 hb x e => cPass_box h (hdT s.l) x true w1 hb e (fun _ => hk5))
    clear hk hk5 h
    generalize hdT s.l = t at *
    go_enter Tryz.func183, Tryz.ntmps183
    go_wp2_with fail
    refine HT.mono ?_
    rintro e w1 ⟨rfl, hb⟩
    have HP2 := HP1.out w1 hb
    clear HP1 hb HT
    go_wp2_with fail
    refine (HP2 _ (Eq.trans ?_ (HE.out.trans HBB.out))).mono ?_
    · rfl
    rintro e w2 ⟨rfl, hp, h1, hl⟩
    simp only [reduceIte] at hp
    have HX := Lib.hid hp
    clear hp HP2
    go_wp2_with fail
    go_ret
    rw [HM.out]
    exact ⟨rfl, HX.out⟩
  · rw [if_neg hk] at HM
    have HBB := Lib.hid (show ((hdT s.l).k == n) = false by simpa using hk)
    have HP1 := Lib.hid (fun w1 hb x e => cPass_box h (hdT s.l) x false w1 hb e (fun h => absurd h (by decide)))
    clear hk h
    generalize hdT s.l = t at *
    go_enter Tryz.func183, Tryz.ntmps183
    go_wp2_with fail
    refine HT.mono ?_
    rintro e w1 ⟨rfl, hb⟩
    have HP2 := HP1.out w1 hb
    clear HP1 hb HT
    go_wp2_with fail
    refine (HP2 _ (Eq.trans ?_ (HE.out.trans HBB.out))).mono ?_
    · rfl
    rintro e w2 ⟨rfl, hp, h1, hl⟩
    rw [if_neg (by decide)] at hp
    have HX := Lib.hid hp
    have HF := pFail_any 2 w2 hp.1
    clear hp HP2
    go_wp2_with fail
    refine HF.mono ?_
    rintro e w3 ⟨rfl, hp3⟩
    have HX3 := Lib.hid (HX.out.trans hp3)
    clear hp3 HF
    go_wp2_with fail
    go_ret
    rw [HM.out]
    exact ⟨rfl, HX3.out⟩

set_option maxRecDepth 100000 in
theorem pNm_any {c : Cx} {k : Nat} {s : Ms} (w : World) (h : Pv c k s w) : Calls Tryz.prog 137 #[.pointer (some ⟨c.R, 0, none⟩)] w fun e w' => e = .returned (.string ⟨(nmM c.z s).1.toArray⟩) ∧ Pw c k (nmM c.z s).2 w w' := by
  have HT := cMust_any 1 (by decide) w h
  rw [show muM c.z 1 s = nmM c.z s from rfl] at HT
  clear h
  go_enter Tryz.func137, Tryz.ntmps137
  go_wp2_with fail
  refine HT.mono ?_
  rintro e w1 ⟨rfl, hp⟩
  go_wp2_with fail
  go_ret
  exact ⟨rfl, hp⟩

end Go.Proofs.YtkahnlgedacppaaGreatDoor
