/-
  Types of documents: what is read from tokens, a type's text, and that the text is read as the type.
-/
import Derived.Test.YtibkncgfdhflgaaGreatDoorMVp
namespace Go.Proofs.YtibkncgfdhflgaaGreatDoor
open Go.RowKit

/-- The one ! that may stand here. -/
def bangP (l : List Sk) : List UInt8 × List Sk := if sg (hdK l) 33 then ([33], l.tail) else ([], l)
/-- So many lists end. -/
def tyEnds : Nat → List Sk → List UInt8 → Option (List UInt8 × List Sk)
  | 0, l, ws => some (ws, l)
  | n + 1, l, ws => if sg (hdK l) 93 then tyEnds n (bangP l.tail).2 (ws ++ (93 :: (bangP l.tail).1)) else none
/-- At most so many lists begin. -/
def opensN : Nat → List Sk → Nat
  | 0, _ => 0
  | k + 1, l => if sg (hdK l) 91 then opensN k l.tail + 1 else 0
def opensL : Nat → List Sk → List Sk
  | 0, l => l
  | k + 1, l => if sg (hdK l) 91 then opensL k l.tail else l
/-- A type: its name, its wraps, the tokens behind it. -/
def typeP (l : List Sk) : Option (List UInt8 × List UInt8 × List Sk) :=
  if (hdK (opensL 12 l)).1 = 1 then (tyEnds (opensN 12 l) (bangP (opensL 12 l).tail).2 (bangP (opensL 12 l).tail).1).map fun q => ((hdK (opensL 12 l)).2, q.1, q.2) else none

theorem opens_le : ∀ (k : Nat) (l : List Sk), opensN k l ≤ k
  | 0, _ => Nat.le_refl _
  | k + 1, l => by
    unfold opensN
    split
    · have := opens_le k l.tail; omega
    · omega

/-! ### which types may be -/
def wrOk : List UInt8 → Bool
  | [] => true
  | [b] => b == 33 || b == 93
  | b :: c :: r => (b == 33 || b == 93) && !(b == 33 && c == 33) && wrOk (c :: r)
def cnt93 : List UInt8 → Nat
  | [] => 0
  | b :: r => (if b == 93 then 1 else 0) + cnt93 r
def tyOk (n ws : List UInt8) : Bool := nameB n && (wrOk ws && decide (cnt93 ws ≤ 12))
def tyText (n ws : List UInt8) : List UInt8 := List.replicate (cnt93 ws) 91 ++ (n ++ ws)
def wk (ws : List UInt8) : List Sk := ws.map fun b => (5, [b])
def tyToks (n ws : List UInt8) : List Sk := List.replicate (cnt93 ws) (5, [91]) ++ ((1, n) :: wk ws)

theorem wrOk_tail {b : UInt8} {r : List UInt8} (h : wrOk (b :: r) = true) : wrOk r = true := by
  cases r with
  | nil => rfl
  | cons c r => unfold wrOk at h; rw [Bool.and_eq_true] at h; exact h.2
theorem wrOk_head {b : UInt8} {r : List UInt8} (h : wrOk (b :: r) = true) : b = 33 ∨ b = 93 := by
  cases r with
  | nil => unfold wrOk at h; simpa using h
  | cons c r => unfold wrOk at h; simp only [Bool.and_eq_true, Bool.or_eq_true, beq_iff_eq] at h; exact h.1.1
theorem wrOk_two {r : List UInt8} (h : wrOk (33 :: r) = true) : r.head? ≠ some 33 := by
  cases r with
  | nil => simp
  | cons c r =>
    unfold wrOk at h
    simp only [Bool.and_eq_true] at h
    intro e
    simp at e
    subst e
    exact absurd h.1.2 (by decide)

/-! ### its tokens -/
theorem signs_go : ∀ (l : List UInt8), (∀ b ∈ l, signB b = true) → ∀ (X : List UInt8) (a : Nat) (acc : List Tk), ∃ ts, ts.map strip = wk l ∧ lxG a (l ++ X) acc = lxG (a + l.length) X (acc ++ ts)
  | [], _, X, a, acc => ⟨[], rfl, by rw [List.append_nil]; rfl⟩
  | b :: l, h, X, a, acc => by
    obtain ⟨ts, e, hg⟩ := signs_go l (fun c hc => h c (by simp [hc])) X (a + 1) (acc ++ [⟨5, [b], a⟩])
    refine ⟨⟨5, [b], a⟩ :: ts, by rw [List.map_cons, e]; rfl, ?_⟩
    rw [List.cons_append, sign_go (h b (by simp)), hg, List.length_cons, List.append_assoc]
    congr 1
    omega
theorem wk_rep (n : Nat) (b : UInt8) : wk (List.replicate n b) = List.replicate n (5, [b]) := by unfold wk; rw [List.map_replicate]
theorem wr_all : ∀ (l : List UInt8), wrOk l = true → ∀ b ∈ l, signB b = true ∧ nbU b = false ∧ b ≠ 34
  | [], _, _, h => by cases h
  | c :: r, h, b, hb => by
    rcases List.mem_cons.1 hb with rfl | hb
    · rcases wrOk_head h with rfl | rfl <;> decide
    · exact wr_all r (wrOk_tail h) b hb
theorem ty_lexes {n ws : List UInt8} (hn : nameB n = true) (hw : wrOk ws = true) : Lexes (tyText n ws) (tyToks n ws) := by
  intro X hX a acc
  obtain ⟨t1, e1, h1⟩ := signs_go (List.replicate (cnt93 ws) 91) (fun b hb => by rw [(List.mem_replicate.1 hb).2]; decide) (n ++ (ws ++ X)) a acc
  have hs : sepV (ws ++ X) := by
    cases ws with
    | nil => exact hX
    | cons b r => exact sep_of _ (wr_all _ hw b (by simp)).2.1 (wr_all _ hw b (by simp)).2.2
  obtain ⟨t2, e2, h2⟩ := name_lexes hn (ws ++ X) hs (a + (List.replicate (cnt93 ws) (91 : UInt8)).length) (acc ++ t1)
  obtain ⟨t3, e3, h3⟩ := signs_go ws (fun b hb => (wr_all _ hw b hb).1) X (a + (List.replicate (cnt93 ws) (91 : UInt8)).length + n.length) (acc ++ t1 ++ t2)
  refine ⟨t1 ++ (t2 ++ t3), ?_, ?_⟩
  · rw [List.map_append, List.map_append, e1, e2, e3, wk_rep]; rfl
  · unfold tyText
    rw [List.append_assoc, List.append_assoc, h1, h2, h3]
    simp only [List.length_append, List.append_assoc]
    congr 1
    omega

/-! ### the tokens are read as the type -/
theorem opens_rep : ∀ (k c : Nat) (X : List Sk), c ≤ k → sg (hdK X) 91 = false → opensN k (List.replicate c (5, [91]) ++ X) = c ∧ opensL k (List.replicate c (5, [91]) ++ X) = X
  | 0, c, X, h, _ => by
    obtain rfl : c = 0 := by omega
    exact ⟨rfl, rfl⟩
  | k + 1, 0, X, _, h0 => by
    show opensN (k + 1) X = 0 ∧ opensL (k + 1) X = X
    unfold opensN opensL
    rw [if_neg (by rw [h0]; decide), if_neg (by rw [h0]; decide)]
    exact ⟨rfl, rfl⟩
  | k + 1, c + 1, X, h, h0 => by
    obtain ⟨i1, i2⟩ := opens_rep k c X (by omega) h0
    have e : List.replicate (c + 1) ((5, [91]) : Sk) ++ X = (5, [91]) :: (List.replicate c (5, [91]) ++ X) := by rw [List.replicate_succ, List.cons_append]
    rw [e]
    have h1 : sg (hdK ((5, [91]) :: (List.replicate c ((5, [91]) : Sk) ++ X))) 91 = true := by rfl
    unfold opensN opensL
    rw [if_pos h1, if_pos h1]
    exact ⟨congrArg (· + 1) i1, i2⟩
/-- More lists begin than may be: none. -/
theorem opens_more : ∀ (k c : Nat) (X : List Sk), k < c → ∃ Y, opensL k (List.replicate c (5, [91]) ++ X) = (5, [91]) :: Y
  | 0, c, X, h => by
    obtain ⟨d, rfl⟩ : ∃ d, c = d + 1 := ⟨c - 1, by omega⟩
    exact ⟨List.replicate d (5, [91]) ++ X, by rw [List.replicate_succ, List.cons_append]; rfl⟩
  | k + 1, c, X, h => by
    obtain ⟨d, rfl⟩ : ∃ d, c = d + 1 := ⟨c - 1, by omega⟩
    obtain ⟨Y, hY⟩ := opens_more k d X (by omega)
    refine ⟨Y, ?_⟩
    have h1 : sg (hdK ((5, [91]) :: (List.replicate d ((5, [91]) : Sk) ++ X))) 91 = true := by rfl
    rw [List.replicate_succ, List.cons_append]
    unfold opensL
    rw [if_pos h1]
    exact hY
theorem type_more {n : Nat} {X : List Sk} (h : 12 < n) : typeP (List.replicate n (5, [91]) ++ X) = none := by
  obtain ⟨Y, hY⟩ := opens_more 12 n X h
  unfold typeP
  rw [hY, if_neg (show ¬ (hdK ((5, [91]) :: Y)).1 = 1 from by show ¬ (5 = 1); decide)]
theorem bang_no {l : List Sk} (h : sg (hdK l) 33 = false) : bangP l = ([], l) := by unfold bangP; rw [if_neg (by rw [h]; decide)]
theorem bang_yes (l : List Sk) : bangP ((5, [33]) :: l) = ([33], l) := by unfold bangP; rw [if_pos (by rfl)]; rfl
theorem ends_one (n : Nat) (X : List Sk) (ws : List UInt8) : tyEnds (n + 1) ((5, [93]) :: X) ws = tyEnds n (bangP X).2 ((ws ++ [93]) ++ (bangP X).1) := by
  conv => lhs; unfold tyEnds
  rw [if_pos (by rfl), List.append_assoc]
  rfl
theorem ends_wk (tl : List Sk) (htl : sg (hdK tl) 33 = false) : ∀ (k : Nat) (ws : List UInt8), ws.length ≤ k → wrOk ws = true → ∀ (p : List UInt8), tyEnds (cnt93 ws) (bangP (wk ws ++ tl)).2 (p ++ (bangP (wk ws ++ tl)).1) = some (p ++ ws, tl) := by
  intro k
  induction k with
  | zero =>
    intro ws hk _ p
    obtain rfl : ws = [] := List.eq_nil_of_length_eq_zero (by omega)
    show tyEnds 0 (bangP tl).2 (p ++ (bangP tl).1) = _
    rw [bang_no htl]
    rfl
  | succ k ih =>
    intro ws hk hw p
    cases ws with
    | nil =>
      show tyEnds 0 (bangP tl).2 (p ++ (bangP tl).1) = _
      rw [bang_no htl]
      rfl
    | cons b r =>
      rw [List.length_cons] at hk
      rcases wrOk_head hw with rfl | rfl
      · have hb : bangP (wk (33 :: r) ++ tl) = ([33], wk r ++ tl) := bang_yes _
        rw [hb]
        have hc : cnt93 (33 :: r) = cnt93 r := by show (if (33 : UInt8) == 93 then 1 else 0) + _ = _; rw [if_neg (by decide)]; omega
        rw [hc]
        cases r with
        | nil => rfl
        | cons c r =>
          have h2 := wrOk_two hw
          have h3 := wrOk_tail hw
          rcases wrOk_head h3 with rfl | rfl
          · exact absurd rfl h2
          · have hc2 : cnt93 (93 :: r) = cnt93 r + 1 := by show (if (93 : UInt8) == 93 then 1 else 0) + _ = _; rw [if_pos (by decide)]; omega
            rw [hc2]
            show tyEnds (cnt93 r + 1) ((5, [93]) :: (wk r ++ tl)) (p ++ [33]) = _
            rw [ends_one, ih r (by rw [List.length_cons] at hk; omega) (wrOk_tail h3)]
            simp
      · have hb : bangP (wk (93 :: r) ++ tl) = ([], (5, [93]) :: (wk r ++ tl)) := bang_no (by rfl)
        rw [hb]
        have hc2 : cnt93 (93 :: r) = cnt93 r + 1 := by show (if (93 : UInt8) == 93 then 1 else 0) + _ = _; rw [if_pos (by decide)]; omega
        rw [hc2]
        show tyEnds (cnt93 r + 1) ((5, [93]) :: (wk r ++ tl)) (p ++ []) = _
        rw [ends_one, ih r (by omega) (wrOk_tail hw)]
        simp
theorem type_reads {n ws : List UInt8} {tl : List Sk} (hw : wrOk ws = true) (hc : cnt93 ws ≤ 12) (htl : sg (hdK tl) 33 = false) : typeP (tyToks n ws ++ tl) = some (n, ws, tl) := by
  have e : tyToks n ws ++ tl = List.replicate (cnt93 ws) (5, [91]) ++ ((1, n) :: (wk ws ++ tl)) := by unfold tyToks; rw [List.append_assoc]; rfl
  obtain ⟨i1, i2⟩ := opens_rep 12 (cnt93 ws) ((1, n) :: (wk ws ++ tl)) hc (by rfl)
  have h1 := ends_wk tl htl ws.length ws (Nat.le_refl _) hw []
  rw [List.nil_append, List.nil_append] at h1
  rw [e]
  unfold typeP
  rw [i1, i2]
  have e1 : hdK ((1, n) :: (wk ws ++ tl)) = (1, n) := rfl
  have e2 : ((1, n) :: (wk ws ++ tl) : List Sk).tail = wk ws ++ tl := rfl
  rw [e1, e2, if_pos rfl, h1]
  rfl

end Go.Proofs.YtibkncgfdhflgaaGreatDoor

/-
  Documents, from their tokens: what is read, and where it is wrong. No world: plain functions alone.
-/
namespace Go.Proofs.YtibkncgfdhflgaaGreatDoor
open Go.RowKit

abbrev Nm := List UInt8
abbrev ArgT := Nm × JV
abbrev DirT := Nm × List ArgT
/-- A selection: its kind (1 field, 2 spread, 3 inline), alias, name, type, arguments, directives, selections. -/
inductive SelT where
  | mk (k : Nat) (al nm on_ : Nm) (args : List ArgT) (dirs : List DirT) (sels : List SelT)
def SelT.k : SelT → Nat
  | .mk k _ _ _ _ _ _ => k
def SelT.al : SelT → Nm
  | .mk _ a _ _ _ _ _ => a
def SelT.nm : SelT → Nm
  | .mk _ _ n _ _ _ _ => n
def SelT.on_ : SelT → Nm
  | .mk _ _ _ o _ _ _ => o
def SelT.args : SelT → List ArgT
  | .mk _ _ _ _ a _ _ => a
def SelT.dirs : SelT → List DirT
  | .mk _ _ _ _ _ d _ => d
def SelT.sels : SelT → List SelT
  | .mk _ _ _ _ _ _ s => s
structure VarT where
  nm : Nm
  ty : Nm × Nm
  dflt : JV
structure OpT where
  mut_ : Bool
  nm : Nm
  vars : List VarT
  dirs : List DirT
  sels : List SelT
structure FragT where
  nm : Nm
  on_ : Nm
  dirs : List DirT
  sels : List SelT
structure DocT where
  ops : List OpT
  frags : List FragT

/-- What is read, the tokens behind it (or from the wrong one on), the error. -/
abbrev PR (α : Type) := α × List Sk × Nat
def thn {α β : Type} (z : β) (r : PR α) (f : α → List Sk → PR β) : PR β := if r.2.2 = 0 then f r.1 r.2.1 else (z, r.2.1, r.2.2)
def isW (t : Sk) (s : List UInt8) : Bool := t.1 == 1 && t.2 == s
def isDots (t : Sk) : Bool := t.1 == 5 && t.2 == [46, 46, 46]
def onS : Nm := [111, 110]
def queryS : Nm := [113, 117, 101, 114, 121]
def mutS : Nm := [109, 117, 116, 97, 116, 105, 111, 110]
def fragS : Nm := [102, 114, 97, 103, 109, 101, 110, 116]
def nameP (l : List Sk) : PR Nm := if (hdK l).1 = 1 then ((hdK l).2, l.tail, 0) else ([], l, 2)
def signP (c : UInt8) (l : List Sk) : PR Unit := if sg (hdK l) c then ((), l.tail, 0) else ((), l, 2)
/-- One or more, up to the sign that ends them. -/
def manyGo {α : Type} (P : List Sk → PR α) (c : UInt8) : Nat → List Sk → List α → PR (List α)
  | 0, l, _ => ([], l, 2)
  | n + 1, l, acc => if !acc.isEmpty && sg (hdK l) c then (acc, l.tail, 0) else thn [] (P l) fun x l => manyGo P c n l (acc ++ [x])

def argP (l : List Sk) : PR ArgT := thn ([], vz) (nameP l) fun n l => thn ([], vz) (signP 58 l) fun _ l => thn ([], vz) (pvT 12 l) fun v l => ((n, v), l, 0)
def argsP (l : List Sk) : PR (List ArgT) := if sg (hdK l) 40 then manyGo argP 41 l.length l.tail [] else ([], l, 0)
def dirsGo : Nat → List Sk → List DirT → PR (List DirT)
  | 0, l, acc => (acc, l, 0)
  | n + 1, l, acc => if sg (hdK l) 64 then thn [] (nameP l.tail) fun nm l => thn [] (argsP l) fun gs l => dirsGo n l (acc ++ [(nm, gs)]) else (acc, l, 0)
def dirsP (l : List Sk) : PR (List DirT) := dirsGo l.length l []

def selZ : SelT := .mk 0 [] [] [] [] [] []
/-- A selection, where S reads a set one deeper. -/
def selP (S : List Sk → PR (List SelT)) (l : List Sk) : PR SelT :=
  if isDots (hdK l) then
    if (hdK l.tail).1 = 1 && !isW (hdK l.tail) onS then thn selZ (dirsP l.tail.tail) fun ds l' => (.mk 2 [] (hdK l.tail).2 [] [] ds [], l', 0)
    else thn selZ (if isW (hdK l.tail) onS then nameP l.tail.tail else ([], l.tail, 0)) fun o l => thn selZ (dirsP l) fun ds l => thn selZ (S l) fun ss l => (.mk 3 [] [] o [] ds ss, l, 0)
  else thn selZ (nameP l) fun n l => thn selZ (if sg (hdK l) 58 then thn ([], []) (nameP l.tail) fun m l => ((n, m), l, 0) else (([], n), l, 0)) fun an l =>
    thn selZ (argsP l) fun gs l => thn selZ (dirsP l) fun ds l => thn selZ (if sg (hdK l) 123 then S l else ([], l, 0)) fun ss l => (.mk 1 an.1 an.2 [] gs ds ss, l, 0)
/-- A selection set with at most f levels. -/
def setP : Nat → List Sk → PR (List SelT)
  | 0, l => if sg (hdK l) 123 then ([], l, 4) else ([], l, 2)
  | f + 1, l => if sg (hdK l) 123 then manyGo (selP (setP f)) 125 l.length l.tail [] else ([], l, 2)

/-- No variable may stand: a $ is no token of a value. -/
def noVar (t : Sk) : Sk := if sg t 36 then (0, []) else t
def constP (l : List Sk) : PR JV := ((pvT 12 (l.map noVar)).1, l.drop (l.length - (pvT 12 (l.map noVar)).2.1.length), (pvT 12 (l.map noVar)).2.2)
def varZ : VarT := ⟨[], ([], []), vz⟩
def typP (l : List Sk) : PR (Nm × Nm) := match typeP l with
  | some (n, ws, r) => ((n, ws), r, 0)
  | none => (([], []), l, 2)
def varP (l : List Sk) : PR VarT := thn varZ (signP 36 l) fun _ l => thn varZ (nameP l) fun n l => thn varZ (signP 58 l) fun _ l => thn varZ (typP l) fun t l =>
  thn varZ (if sg (hdK l) 61 then constP l.tail else (vz, l, 0)) fun v l => (⟨n, t, v⟩, l, 0)
def varsP (l : List Sk) : PR (List VarT) := if sg (hdK l) 40 then manyGo varP 41 l.length l.tail [] else ([], l, 0)

def docZ : DocT := ⟨[], []⟩
def defP (d : DocT) (l : List Sk) : PR DocT :=
  if sg (hdK l) 123 then thn docZ (setP 12 l) fun ss l => (⟨d.ops ++ [⟨false, [], [], [], ss⟩], d.frags⟩, l, 0)
  else if isW (hdK l) queryS || isW (hdK l) mutS then
    thn docZ (if (hdK l.tail).1 = 1 then nameP l.tail else ([], l.tail, 0)) fun n l' => thn docZ (varsP l') fun vs l' => thn docZ (dirsP l') fun ds l' => thn docZ (setP 12 l') fun ss l' =>
      (⟨d.ops ++ [⟨isW (hdK l) mutS, n, vs, ds, ss⟩], d.frags⟩, l', 0)
  else if isW (hdK l) fragS then
    if isW (hdK l.tail) onS then (docZ, l.tail, 2) else
      thn docZ (nameP l.tail) fun n l => if isW (hdK l) onS then thn docZ (nameP l.tail) fun o l => thn docZ (dirsP l) fun ds l => thn docZ (setP 12 l) fun ss l => (⟨d.ops, d.frags ++ [⟨n, o, ds, ss⟩]⟩, l, 0) else (docZ, l, 2)
  else (docZ, l, 2)
def docGo : Nat → List Sk → DocT → PR DocT
  | 0, l, _ => (docZ, l, 2)
  | n + 1, l, d => thn docZ (defP d l) fun d l => if l.isEmpty then (d, l, 0) else docGo n l d
/-- Parse: the document, the place, the error. -/
def parseT (s : List UInt8) (ts : List Tk) : DocT × Nat × Nat :=
  if 600 < ts.length then (docZ, 0, 3) else
    let q := docGo (ts.length + 1) (ts.map strip) docZ
    if q.2.2 = 0 then (q.1, 0, 0) else (docZ, ((ts[ts.length - q.2.1.length]?).map (·.at_)).getD s.length, q.2.2)
def parseP (s : List UInt8) : DocT × Nat × Nat :=
  if 4000 < s.length then (docZ, 0, 3) else if (lexP s).2.2 = 0 then parseT s (lexP s).1 else (docZ, (lexP s).2.1, (lexP s).2.2)

/-! ### the document's example, and the texts of the other laws -/
theorem dp_one : parseP [123, 97, 125] = (⟨[⟨false, [], [], [], [.mk 1 [] [97] [] [] [] []]⟩], []⟩, 0, 0) := by kernel_rfl
theorem dp_cut : parseP [123, 97] = (docZ, 2, 2) := by kernel_rfl

/-- Sets in one another. -/
def deepS (inl : Bool) : Nat → List UInt8
  | 0 => []
  | 1 => [123, 97]
  | k + 2 => (if inl then [123, 46, 46, 46] else [123, 97]) ++ deepS inl (k + 1)
def deepT (inl : Bool) (k : Nat) : List UInt8 := deepS inl k ++ List.replicate k 125
def deepOk (inl : Bool) (k : Nat) : Bool :=
  let r := parseP (deepT inl k)
  if k ≤ 12 then r.2.2 == 0 && r.2.1 == 0 else r.2.2 == 4 && decide (r.2.1 < (deepS inl k).length) && (deepS inl k)[r.2.1]? == some 123
theorem deep_all : ((List.range 20).all fun k => deepOk false (k + 1) && deepOk true (k + 1)) = true := by kernel_rfl

end Go.Proofs.YtibkncgfdhflgaaGreatDoor

/-
  doc's parser as it goes: what is ahead of it, the error that it keeps. Plain functions alone.
-/
namespace Go.Proofs.YtibkncgfdhflgaaGreatDoor
open Go.RowKit

/-- What is ahead of the parser, the error that it keeps, where. -/
structure Ms where
  l : List Tk
  er : Nat
  wr : Nat
def hdT (l : List Tk) : Tk := l.headD ⟨0, [], 0⟩
def isSg (g : List UInt8) (t : Tk) : Bool := t.k == 5 && t.s == g
def isWd (g : List UInt8) (t : Tk) : Bool := t.k == 1 && t.s == g
/-- The byte of the token ahead; at the end, of the end. -/
def plM (z : Nat) : List Tk → Nat
  | [] => z
  | t :: _ => t.at_
def failM (z e : Nat) (s : Ms) : Ms := if s.er = 0 then ⟨[], e, plM z s.l⟩ else s
def tlM (s : Ms) : Ms := ⟨s.l.tail, s.er, s.wr⟩
def sgM (z : Nat) (g : List UInt8) (s : Ms) : Ms := if isSg g (hdT s.l) then tlM s else failM z 2 s
def wdM (z : Nat) (g : List UInt8) (s : Ms) : Ms := if isWd g (hdT s.l) then tlM s else failM z 2 s
def nmM (z : Nat) (s : Ms) : Nm × Ms := if (hdT s.l).k = 1 then ((hdT s.l).s, tlM s) else ([], failM z 2 s)
def nnM (z : Nat) (s : Ms) : Nm × Ms := if (hdT s.l).k = 1 then nmM z s else ([], s)
def tyM (z : Nat) (s : Ms) : (Nm × Nm) × Ms := match typeP (s.l.map strip) with
  | some (n, ws, r) => ((n, ws), ⟨s.l.drop (s.l.length - r.length), s.er, s.wr⟩)
  | none => (([], []), failM z 2 s)
/-- A value out of m, a beginning of what is ahead. -/
def vaM (z : Nat) (m : List Tk) (s : Ms) : JV × Ms :=
  let r := pvT 12 (m.map strip)
  let s1 : Ms := ⟨s.l.drop (m.length - r.2.1.length), s.er, s.wr⟩
  if r.2.2 = 0 then (r.1, s1) else (vz, failM z r.2.2 s1)
def notVar (t : Tk) : Bool := !isSg [36] t
def vlM (z : Nat) (s : Ms) : JV × Ms := vaM z s.l s
def coM (z : Nat) (s : Ms) : JV × Ms := vaM z (s.l.takeWhile notVar) s
/-- One part more, and more, up to the sign e. -/
def moreM {α : Type} (e : List UInt8) (P : Ms → α × Ms) : Nat → Ms → List α → List α × Ms
  | 0, s, acc => (acc, s)
  | n + 1, s, acc => if s.er = 0 then (if isSg e (hdT (P s).2.l) then (acc ++ [(P s).1], tlM (P s).2) else moreM e P n (P s).2 (acc ++ [(P s).1])) else (acc, s)
def svM {α : Type} (z : Nat) (b e : List UInt8) (P : Ms → α × Ms) (s : Ms) : List α × Ms := moreM e P ((sgM z b s).l.length + 1) (sgM z b s) []
def soM {α : Type} (z : Nat) (b e : List UInt8) (P : Ms → α × Ms) (s : Ms) : List α × Ms := if isSg b (hdT s.l) then svM z b e P s else ([], s)
def arM (z : Nat) (s : Ms) : ArgT × Ms := (((nmM z s).1, (vlM z (sgM z [58] (nmM z s).2)).1), (vlM z (sgM z [58] (nmM z s).2)).2)
def asM (z : Nat) (s : Ms) : List ArgT × Ms := soM z [40] [41] (arM z) s
def diM (z : Nat) (s : Ms) : DirT × Ms := (((nmM z s).1, (asM z (nmM z s).2).1), (asM z (nmM z s).2).2)
def dsM (z : Nat) : Nat → Ms → List DirT → List DirT × Ms
  | 0, s, acc => (acc, s)
  | n + 1, s, acc => if isSg [64] (hdT s.l) then dsM z n (diM z (tlM s)).2 (acc ++ [(diM z (tlM s)).1]) else (acc, s)
def dirM (z : Nat) (s : Ms) : List DirT × Ms := dsM z (s.l.length + 1) s []
/-- What stands ahead of a default. -/
def vhM (z : Nat) (s : Ms) : (Nm × (Nm × Nm)) × Ms := (((nmM z (sgM z [36] s)).1, (tyM z (sgM z [58] (nmM z (sgM z [36] s)).2)).1), (tyM z (sgM z [58] (nmM z (sgM z [36] s)).2)).2)
def dfltM (z : Nat) (s : Ms) : JV × Ms := if isSg [61] (hdT s.l) then coM z (tlM s) else (vz, s)
def vdM (z : Nat) (s : Ms) : VarT × Ms := (⟨(vhM z s).1.1, (vhM z s).1.2, (dfltM z (vhM z s).2).1⟩, (dfltM z (vhM z s).2).2)
def dotS : List UInt8 := [46, 46, 46]
def spM (z : Nat) (s : Ms) : SelT × Ms := (.mk 2 [] (nmM z s).1 [] [] (dirM z (nmM z s).2).1 [], (dirM z (nmM z s).2).2)
def onM (z : Nat) (s : Ms) : Nm × Ms := if isWd onS (hdT s.l) then nmM z (tlM s) else ([], s)
def inM (z : Nat) (S : Ms → List SelT × Ms) (s : Ms) : SelT × Ms :=
  (.mk 3 [] [] (onM z s).1 [] (dirM z (onM z s).2).1 (S (dirM z (onM z s).2).2).1, (S (dirM z (onM z s).2).2).2)
def alM (z : Nat) (n : Nm × Ms) : (Nm × Nm) × Ms := if isSg [58] (hdT n.2.l) then ((n.1, (nmM z (tlM n.2)).1), (nmM z (tlM n.2)).2) else (([], n.1), n.2)
def ssM (S : Ms → List SelT × Ms) (s : Ms) : List SelT × Ms := if isSg [123] (hdT s.l) then S s else ([], s)
def fiM (z : Nat) (S : Ms → List SelT × Ms) (s : Ms) : SelT × Ms :=
  let an := alM z (nmM z s)
  let a := asM z an.2
  let d := dirM z a.2
  let ss := ssM S d.2
  (.mk 1 an.1.1 an.1.2 [] a.1 d.1 ss.1, ss.2)
def slM (z : Nat) (S : Ms → List SelT × Ms) (s : Ms) : SelT × Ms :=
  if isSg dotS (hdT s.l) then (if (hdT (tlM s).l).k == 1 && !isWd onS (hdT (tlM s).l) then spM z (tlM s) else inM z S (tlM s)) else fiM z S s
/-- A selection set with at most f levels. -/
def setM (z : Nat) : Nat → Ms → List SelT × Ms
  | 0, s => ([], sgM z [123] (if isSg [123] (hdT s.l) then failM z 4 s else s))
  | f + 1, s => svM z [123] [125] (slM z (setM z f)) s
def mqM (z : Nat) (s : Ms) : Bool × Ms := if isWd mutS (hdT s.l) then (true, tlM s) else (false, wdM z queryS s)
def varsM (z : Nat) (s : Ms) : List VarT × Ms := soM z [40] [41] (vdM z) s
def hedM (z : Nat) (s : Ms) : OpT × Ms :=
  let m := mqM z s
  let n := nnM z m.2
  let v := varsM z n.2
  let d := dirM z v.2
  (⟨m.1, n.1, v.1, d.1, []⟩, d.2)
def oheM (z : Nat) (s : Ms) : OpT × Ms := if isSg [123] (hdT s.l) then (⟨false, [], [], [], []⟩, s) else hedM z s
def opeM (z : Nat) (s : Ms) : OpT × Ms := (⟨(oheM z s).1.mut_, (oheM z s).1.nm, (oheM z s).1.vars, (oheM z s).1.dirs, (setM z 12 (oheM z s).2).1⟩, (setM z 12 (oheM z s).2).2)
def fnmM (z : Nat) (s : Ms) : Nm × Ms := nmM z (if isWd onS (hdT s.l) then failM z 2 s else s)
def fraM (z : Nat) (s : Ms) : FragT × Ms :=
  let n := fnmM z s
  let o := nmM z (wdM z onS n.2)
  let d := dirM z o.2
  let ss := setM z 12 d.2
  (⟨n.1, o.1, d.1, ss.1⟩, ss.2)
def defM (z : Nat) (d : DocT) (s : Ms) : DocT × Ms :=
  if isWd fragS (hdT s.l) then (⟨d.ops, d.frags ++ [(fraM z (tlM s)).1]⟩, (fraM z (tlM s)).2) else (⟨d.ops ++ [(opeM z s).1], d.frags⟩, (opeM z s).2)
def dgoM (z : Nat) : Nat → DocT → Ms → DocT × Ms
  | 0, d, s => (d, s)
  | n + 1, d, s => if s.l.isEmpty then (d, s) else dgoM z n (defM z d s).1 (defM z d s).2
def dcM (z : Nat) (s : Ms) : DocT × Ms := dgoM z ((defM z docZ s).2.l.length + 1) (defM z docZ s).1 (defM z docZ s).2
/-- Parse: the document, the place, the error. -/
def parseM (s : List UInt8) : DocT × Nat × Nat :=
  if 4000 < s.length then (docZ, 0, 3) else if (lexP s).2.2 = 0 then
    (if 600 < (lexP s).1.length then (docZ, 0, 3) else
      if (dcM s.length ⟨(lexP s).1, 0, 0⟩).2.er = 0 then ((dcM s.length ⟨(lexP s).1, 0, 0⟩).1, 0, 0) else (docZ, (dcM s.length ⟨(lexP s).1, 0, 0⟩).2.wr, (dcM s.length ⟨(lexP s).1, 0, 0⟩).2.er))
  else (docZ, (lexP s).2.1, (lexP s).2.2)

theorem dm_one : parseM [123, 97, 125] = (⟨[⟨false, [], [], [], [.mk 1 [] [97] [] [] [] []]⟩], []⟩, 0, 0) := by kernel_rfl
theorem dm_cut : parseM [123, 97] = (docZ, 2, 2) := by kernel_rfl

/-! ### an error stays; what reads on goes on -/
def Bad (s : Ms) : Prop := s.er ≠ 0 → s.l = []
theorem bad_fail (z e : Nat) (s : Ms) (h : Bad s) : Bad (failM z e s) := by
  unfold failM
  split
  · exact fun _ => rfl
  · exact h
theorem bad_tl {s : Ms} (h : Bad s) : Bad (tlM s) := fun he => by show s.l.tail = []; rw [h he]; rfl
end Go.Proofs.YtibkncgfdhflgaaGreatDoor
