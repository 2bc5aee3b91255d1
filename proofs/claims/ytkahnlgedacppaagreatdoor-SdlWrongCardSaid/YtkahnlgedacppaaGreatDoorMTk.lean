/-
  What refectoryref08.Digits and refectorylaw00.Digits answer: a number's digits.
-/
import Derived.Test.YtkahnlgedacppaaGreatDoorMLx3
import Derived.Test.YtkahnlgedacppaaGreatDoorMQuote2
import Derived.Test.YtkahnlgedacppaaGreatDoorMText2
namespace Go.Proofs.YtkahnlgedacppaaGreatDoor
open Go.RowKit

def dch (d : Nat) : UInt8 := UInt8.ofNat (48 + d)
/-- The digits of a number that has at most f of them. -/
def dgs : Nat → Nat → List UInt8
  | 0, _ => []
  | f + 1, v => if v < 10 then [dch v] else dgs f (v / 10) ++ [dch (v % 10)]

theorem digit_slice (d : Nat) (hd : d < 10) (w : World) : (Instr.slice 9 (.string ⟨#[48, 49, 50, 51, 52, 53, 54, 55, 56, 57]⟩) (some (.int .i64 (d : Int))) (some (.int .i64 ((d : Int) + 1))) none).run Tryz.prog w = .ok (.string ⟨#[dch d]⟩) w := by
  have hz : digitsS.size = 10 := rfl
  rw [run_slice_string_if _ _ _ _ _ _ _ Tryz.underlying9, if_pos (by show _ ∧ _ ≤ (digitsS.size : Int); omega), if_pos (by omega)]
  have e : ((d : Int) + 1).toNat = d + 1 := by omega
  have e0 : ((d : Int)).toNat = d := by omega
  rw [e, e0]
  match d, hd with
  | 0, _ | 1, _ | 2, _ | 3, _ | 4, _ | 5, _ | 6, _ | 7, _ | 8, _ | 9, _ => rfl

theorem app_one (l : List UInt8) (b : UInt8) : (⟨l.toArray⟩ : ByteArray) ++ ⟨#[b]⟩ = ⟨(l ++ [b]).toArray⟩ := by
  rw [← of_list (⟨l.toArray⟩ ++ ⟨#[b]⟩), app_list]

theorem dgs_len : ∀ f v, (dgs f v).length ≤ f
  | 0, _ => Nat.le_refl _
  | f + 1, v => by
    unfold dgs
    split
    · simp
    · have := dgs_len f (v / 10)
      simp; omega

set_option maxHeartbeats 1000000 in
set_option maxRecDepth 100000 in
theorem refDigits_any : ∀ (f v : Nat) (w : World), v < 10 ^ f → 1 ≤ f → f ≤ 15 →
    Calls Tryz.prog 46 #[.int .i64 v] w fun e w' => e = .returned (.string ⟨(dgs f v).toArray⟩) ∧ ∃ m, w' = w.drewN m
  | 0, _, _, _, h, _ => absurd h (by omega)
  | f + 1, v, w, h, _, hf => by
    have hv : v ≤ 1000000000000000 := by
      have : 10 ^ (f + 1) ≤ 10 ^ 15 := Nat.pow_le_pow_right (by omega) hf
      have e : (10 : Nat) ^ 15 = 1000000000000000 := by decide
      omega
    have d1 : decide ((v : Int) ≤ -10) = false := decide_eq_false (by omega)
    have d2 : decide ((v : Int) < 0) = false := decide_eq_false (by omega)
    by_cases h10 : v < 10
    · have HD := Lib.hid (show [dch v] = dgs (f + 1) v by unfold dgs; rw [if_pos h10])
      have d3 : decide ((v : Int) < 10) = true := by simp; omega
      have hsl := digit_slice v h10
      go_enter Tryz.func46, Tryz.ntmps46
      go_wp2_with fail
      go_ret
      exact ⟨by rw [← HD.out]; rfl, 0, rfl⟩
    · have d3 : decide ((v : Int) < 10) = false := by simp; omega
      have HD := Lib.hid (show dgs f (v / 10) ++ [dch (v % 10)] = dgs (f + 1) v by
        show _ = if v < 10 then _ else _
        rw [if_neg h10])
      have hlt : v / 10 < 10 ^ f := by
        rw [Nat.pow_succ] at h
        omega
      have hf1 : 1 ≤ f := by
        rcases Nat.eq_zero_or_pos f with h0 | h0
        · subst h0; simp at hlt; omega
        · exact h0
      have hih := fun W => refDigits_any f (v / 10) W hlt hf1 (by omega)
      have hl := dgs_len f (v / 10)
      have hd10 : v % 10 < 10 := Nat.mod_lt _ (by omega)
      have q1 : (v : Int).tdiv 10 = ((v / 10 : Nat) : Int) := by rw [Int.tdiv_eq_ediv_of_nonneg (by omega)]; omega
      have q2 : (v : Int).tmod 10 = ((v % 10 : Nat) : Int) := by rw [Int.tmod_eq_emod_of_nonneg (by omega)]; omega
      have q3 : (v : Int) / 10 = ((v / 10 : Nat) : Int) := by omega
      have q4 : (v : Int) % 10 = ((v % 10 : Nat) : Int) := by omega
      have hsl := digit_slice (v % 10) hd10
      have HA := Lib.hid (app_one (dgs f (v / 10)) (dch (v % 10)))
      generalize v % 10 = d at *
      generalize v / 10 = u at *
      have w1 : IntKind.i64.wrap ((d : Int) + 1) = (d : Int) + 1 := IntWalk.i64_in _ (by omega)
      have w2 : IntKind.i64.wrap (d : Int) = (d : Int) := IntWalk.i64_in _ (by omega)
      have w3 : IntKind.i64.wrap (u : Int) = (u : Int) := IntWalk.i64_in _ (by omega)
      generalize dgs f u = L at *
      go_enter Tryz.func46, Tryz.ntmps46
      go_wp2_with fail
      go_quiet ((go_at_call 46; exact Calls.quiet_of (hih _)))
      go_wp2_with fail
      go_ret
      exact ⟨by rw [← HD.out, ← HA.out]; rfl, _, rfl⟩

set_option maxHeartbeats 400000 in
theorem lawDigits_any (f v : Nat) (w : World) (h : v < 10 ^ f) (h1 : 1 ≤ f) (h15 : f ≤ 15) :
    Calls Tryz.prog 20 #[.int .i64 v] w fun e w' => e = .returned (.string ⟨(dgs f v).toArray⟩) ∧ ∃ m, w' = w.drewN m := by
  go_enter Tryz.func20, Tryz.ntmps20
  go_wp2_with fail
  refine (refDigits_any f v _ h h1 h15).mono ?_
  rintro e w1 ⟨rfl, m, rfl⟩
  go_wp2_with fail
  go_ret
  exact ⟨rfl, m, rfl⟩

end Go.Proofs.YtkahnlgedacppaaGreatDoor
/-
  Plain facts: numbers as they may be written, and not.
-/
namespace Go.Proofs.YtkahnlgedacppaaGreatDoor
open Go.RowKit

end Go.Proofs.YtkahnlgedacppaaGreatDoor
/-
  Unlike values have unlike texts: a value's text, with what may stand behind it, says the value.
-/
namespace Go.Proofs.YtkahnlgedacppaaGreatDoor
open Go.RowKit

/-! ### Numbers -/
theorem taken {p : UInt8 → Bool} : ∀ {l : List UInt8} {b : UInt8}, b ∈ l.takeWhile p → p b = true
  | [], _, h => by cases h
  | a :: t, b, h => by
    rw [List.takeWhile_cons] at h
    split at h
    · rcases List.mem_cons.1 h with e | e
      · subst e; assumption
      · exact taken e
    · cases h
/-! ### Texts in quotes -/
/-! ### A value's first byte says its kind -/
end Go.Proofs.YtkahnlgedacppaaGreatDoor
/-
  Values of documents: what is read from tokens, what a value's text is, and that the text is read as the value.
-/
namespace Go.Proofs.YtkahnlgedacppaaGreatDoor
open Go.RowKit

/-- A token without its place. -/
abbrev Sk := Nat × List UInt8
def strip (t : Tk) : Sk := (t.k, t.s)
def hdK (l : List Sk) : Sk := l.headD (0, [])
def sg (t : Sk) (c : UInt8) : Bool := t.1 == 5 && t.2 == [c]
def vx (k : Int) (s : List UInt8) : JV := .mk k ⟨s.toArray⟩ [] []
def vz : JV := .mk 0 ⟨#[]⟩ [] []
def nullS : List UInt8 := [110, 117, 108, 108]
def trueS : List UInt8 := [116, 114, 117, 101]
def falseS : List UInt8 := [102, 97, 108, 115, 101]
def wordV (s : List UInt8) : JV := if s = nullS then vx 1 [] else if s = trueS then vx 2 s else if s = falseS then vx 2 s else vx 6 s
def plainV (t : Sk) : JV := if t.1 = 1 then wordV t.2 else if t.1 = 2 then vx 3 t.2 else if t.1 = 3 then vx 4 t.2 else if t.1 = 4 then vx 5 t.2 else vz

/-- A value, the tokens behind it (or from the wrong one on), the error. -/
abbrev VR := JV × List Sk × Nat

def vListGo (V : List Sk → VR) : Nat → List Sk → List JV → VR
  | 0, l, _ => (vz, l, 2)
  | n + 1, l, xs => if sg (hdK l) 93 then (.mk 7 ⟨#[]⟩ [] xs, l.tail, 0) else
    if (V l).2.2 = 0 then vListGo V n (V l).2.1 (xs ++ [(V l).1]) else (vz, (V l).2.1, (V l).2.2)

def vObjGo (V : List Sk → VR) : Nat → List Sk → List ByteArray → List JV → VR
  | 0, l, _, _ => (vz, l, 2)
  | n + 1, l, ns, xs => if sg (hdK l) 125 then (.mk 8 ⟨#[]⟩ ns xs, l.tail, 0) else
    if (hdK l).1 = 1 then
      if sg (hdK l.tail) 58 then
        if (V l.tail.tail).2.2 = 0 then vObjGo V n (V l.tail.tail).2.1 (ns ++ [⟨(hdK l).2.toArray⟩]) (xs ++ [(V l.tail.tail).1]) else (vz, (V l.tail.tail).2.1, (V l.tail.tail).2.2)
      else (vz, l.tail, 2)
    else (vz, l, 2)

def varV (l : List Sk) : VR := if (hdK l).1 = 1 then (vx 9 (hdK l).2, l.tail, 0) else (vz, l, 2)

/-- A value with at most f levels. -/
def pvT : Nat → List Sk → VR
  | 0, l => if (plainV (hdK l)).k ≠ 0 then (plainV (hdK l), l.tail, 0) else if sg (hdK l) 36 then varV l.tail
    else if sg (hdK l) 91 || sg (hdK l) 123 then (vz, l, 4) else (vz, l, 2)
  | f + 1, l => if (plainV (hdK l)).k ≠ 0 then (plainV (hdK l), l.tail, 0) else if sg (hdK l) 36 then varV l.tail
    else if sg (hdK l) 91 then vListGo (pvT f) l.length l.tail [] else if sg (hdK l) 123 then vObjGo (pvT f) l.length l.tail [] [] else (vz, l, 2)

/-! ### which values may be read -/
def compV (x : JV) : Bool := x.k == 7 || x.k == 8
/-! ### their tokens, their texts -/
def leafT (x : JV) : List UInt8 := if x.k = 1 then nullS else if x.k = 5 then quoteB (vbl x.s) else if x.k = 9 then 36 :: vbl x.s else vbl x.s
def vpts (f : JV → List UInt8) (ob : Bool) : Bool → List ByteArray → List JV → List UInt8
  | _, _, [] => []
  | fst, ns, p :: r => (if fst then [] else [32]) ++ ((if ob then vbl (ns.headD ⟨#[]⟩) ++ [58] else []) ++ (f p ++ vpts f ob false ns.tail r))
def vtxt : Nat → JV → List UInt8
  | 0, x => if compV x then [] else leafT x
  | m + 1, x => if x.k = 7 then [91] ++ (vpts (vtxt m) false true x.ns x.ps ++ [93]) else if x.k = 8 then [123] ++ (vpts (vtxt m) true true x.ns x.ps ++ [125]) else leafT x

/-! ### the text's tokens -/
/-! ### the tokens are read as the value -/
theorem JV.eta (x : JV) : x = .mk x.k x.s x.ns x.ps := by cases x; rfl
/-! ### a value that is read is ahead of less -/
theorem list_less (V : List Sk → VR) (hV : ∀ l, (V l).2.2 = 0 → (V l).2.1.length < l.length) : ∀ (n : Nat) (l : List Sk) (xs : List JV), (vListGo V n l xs).2.2 = 0 → (vListGo V n l xs).2.1.length < l.length
  | 0, _, _, h => absurd h (Nat.succ_ne_zero 1)
  | n + 1, l, xs, h => by
    unfold vListGo at h ⊢
    split
    · rename_i hs
      cases l with
      | nil => exact absurd hs (by decide)
      | cons t r => show r.length < r.length + 1; omega
    · rename_i hs
      rw [if_neg hs] at h
      split
      · rename_i hv
        rw [if_pos hv] at h
        have h1 := hV l hv
        have h2 := list_less V hV n _ _ h
        omega
      · rename_i hv
        rw [if_neg hv] at h
        exact absurd h hv
theorem obj_less (V : List Sk → VR) (hV : ∀ l, (V l).2.2 = 0 → (V l).2.1.length < l.length) : ∀ (n : Nat) (l : List Sk) (ns : List ByteArray) (xs : List JV), (vObjGo V n l ns xs).2.2 = 0 → (vObjGo V n l ns xs).2.1.length < l.length
  | 0, _, _, _, h => absurd h (Nat.succ_ne_zero 1)
  | n + 1, l, ns, xs, h => by
    unfold vObjGo at h ⊢
    split
    · rename_i hs
      cases l with
      | nil => exact absurd hs (by decide)
      | cons t r => show r.length < r.length + 1; omega
    · rename_i hs
      rw [if_neg hs] at h
      split
      · rename_i h1
        rw [if_pos h1] at h
        split
        · rename_i h2
          rw [if_pos h2] at h
          split
          · rename_i hv
            rw [if_pos hv] at h
            have h3 := hV _ hv
            have h4 := obj_less V hV n _ _ _ h
            have h5 : l.tail.tail.length ≤ l.length := by rw [List.length_tail, List.length_tail]; omega
            omega
          · rename_i hv
            rw [if_neg hv] at h
            exact absurd h hv
        · rename_i h2
          rw [if_neg h2] at h
          exact absurd h (Nat.succ_ne_zero _)
      · rename_i h1
        rw [if_neg h1] at h
        exact absurd h (Nat.succ_ne_zero _)
theorem plain_ne {l : List Sk} (h : (plainV (hdK l)).k ≠ 0) : l.tail.length < l.length := by
  cases l with
  | nil => exact absurd rfl h
  | cons t r => show r.length < r.length + 1; omega
theorem sg_ne {l : List Sk} {c : UInt8} (h : sg (hdK l) c = true) : l.tail.length < l.length := by
  cases l with
  | nil => exact absurd h (by unfold sg hdK; simp)
  | cons t r => show r.length < r.length + 1; omega
theorem var_le (l : List Sk) : (varV l).2.1.length ≤ l.length := by
  unfold varV
  split
  · show l.tail.length ≤ _; rw [List.length_tail]; omega
  · exact Nat.le_refl _
theorem pvT_less : ∀ (f : Nat) (l : List Sk), (pvT f l).2.2 = 0 → (pvT f l).2.1.length < l.length
  | 0, l, h => by
    unfold pvT at h ⊢
    split
    · rename_i h1; exact plain_ne h1
    · rename_i h1
      rw [if_neg h1] at h
      split
      · rename_i h2; have := sg_ne h2; have := var_le l.tail; omega
      · rename_i h2
        rw [if_neg h2] at h
        split at h <;> exact absurd h (Nat.succ_ne_zero _)
  | f + 1, l, h => by
    unfold pvT at h ⊢
    split
    · rename_i h1; exact plain_ne h1
    · rename_i h1
      rw [if_neg h1] at h
      split
      · rename_i h2; have := sg_ne h2; have := var_le l.tail; omega
      · rename_i h2
        rw [if_neg h2] at h
        split
        · rename_i h3
          rw [if_pos h3] at h
          have := sg_ne h3
          have := list_less (pvT f) (pvT_less f) _ _ _ h
          omega
        · rename_i h3
          rw [if_neg h3] at h
          split
          · rename_i h4
            rw [if_pos h4] at h
            have := sg_ne h4
            have := obj_less (pvT f) (pvT_less f) _ _ _ _ h
            omega
          · rename_i h4
            rw [if_neg h4] at h
            exact absurd h (Nat.succ_ne_zero _)

end Go.Proofs.YtkahnlgedacppaaGreatDoor
/-
  Types of documents: what is read from tokens, a type's text, and that the text is read as the type.
-/
namespace Go.Proofs.YtkahnlgedacppaaGreatDoor
open Go.RowKit

/-- The one ! that may stand here. -/
def bangP (l : List Sk) : List UInt8 × List Sk := if sg (hdK l) 33 then ([33], l.tail) else ([], l)
/-- So many lists end. -/
def tyEnds : Nat → List Sk → List UInt8 → Option (List UInt8 × List Sk)
  | 0, l, ws => some (ws, l)
  | n + 1, l, ws => if sg (hdK l) 93 then tyEnds n (bangP l.tail).2 (ws ++ (93 :: (bangP l.tail).1)) else none
/-- At most so many lists begin. -/
def opensN : Nat → List Sk → Nat
  | 0, _ => 0
  | k + 1, l => if sg (hdK l) 91 then opensN k l.tail + 1 else 0
def opensL : Nat → List Sk → List Sk
  | 0, l => l
  | k + 1, l => if sg (hdK l) 91 then opensL k l.tail else l
/-- A type: its name, its wraps, the tokens behind it. -/
def typeP (l : List Sk) : Option (List UInt8 × List UInt8 × List Sk) :=
  if (hdK (opensL 12 l)).1 = 1 then (tyEnds (opensN 12 l) (bangP (opensL 12 l).tail).2 (bangP (opensL 12 l).tail).1).map fun q => ((hdK (opensL 12 l)).2, q.1, q.2) else none

theorem opens_le : ∀ (k : Nat) (l : List Sk), opensN k l ≤ k
  | 0, _ => Nat.le_refl _
  | k + 1, l => by
    unfold opensN
    split
    · have := opens_le k l.tail; omega
    · omega

/-! ### which types may be -/
def wk (ws : List UInt8) : List Sk := ws.map fun b => (5, [b])
/-! ### its tokens -/
/-! ### the tokens are read as the type -/
theorem bang_no {l : List Sk} (h : sg (hdK l) 33 = false) : bangP l = ([], l) := by unfold bangP; rw [if_neg (by rw [h]; decide)]
end Go.Proofs.YtkahnlgedacppaaGreatDoor
/-
  Documents, from their tokens: what is read, and where it is wrong. No world: plain functions alone.
-/
namespace Go.Proofs.YtkahnlgedacppaaGreatDoor
open Go.RowKit

abbrev Nm := List UInt8
abbrev ArgT := Nm × JV
abbrev DirT := Nm × List ArgT
/-- A selection: its kind (1 field, 2 spread, 3 inline), alias, name, type, arguments, directives, selections. -/
inductive SelT where
  | mk (k : Int) (al nm on_ : Nm) (args : List ArgT) (dirs : List DirT) (sels : List SelT)
def SelT.k : SelT → Int
  | .mk k _ _ _ _ _ _ => k
def SelT.al : SelT → Nm
  | .mk _ a _ _ _ _ _ => a
def SelT.nm : SelT → Nm
  | .mk _ _ n _ _ _ _ => n
def SelT.on_ : SelT → Nm
  | .mk _ _ _ o _ _ _ => o
def SelT.args : SelT → List ArgT
  | .mk _ _ _ _ a _ _ => a
def SelT.dirs : SelT → List DirT
  | .mk _ _ _ _ _ d _ => d
def SelT.sels : SelT → List SelT
  | .mk _ _ _ _ _ _ s => s
structure VarT where
  nm : Nm
  ty : Nm × Nm
  dflt : JV
structure OpT where
  mut_ : Bool
  nm : Nm
  vars : List VarT
  dirs : List DirT
  sels : List SelT
structure FragT where
  nm : Nm
  on_ : Nm
  dirs : List DirT
  sels : List SelT
structure DocT where
  ops : List OpT
  frags : List FragT

def queryS : Nm := [113, 117, 101, 114, 121]
def mutS : Nm := [109, 117, 116, 97, 116, 105, 111, 110]
/-! ### the document's example, and the texts of the other laws -/
end Go.Proofs.YtkahnlgedacppaaGreatDoor
/-
  doc's parser as it goes: what is ahead of it, the error that it keeps. Plain functions alone.
-/
namespace Go.Proofs.YtkahnlgedacppaaGreatDoor
open Go.RowKit

/-- What is ahead of the parser, the error that it keeps, where. -/
structure Ms where
  l : List Tk
  er : Nat
  wr : Nat
def hdT (l : List Tk) : Tk := l.headD ⟨0, [], 0⟩
def isSg (g : List UInt8) (t : Tk) : Bool := t.k == 5 && t.s == g
def isWd (g : List UInt8) (t : Tk) : Bool := t.k == 1 && t.s == g
/-- The byte of the token ahead; at the end, of the end. -/
def plM (z : Nat) : List Tk → Nat
  | [] => z
  | t :: _ => t.at_
def failM (z e : Nat) (s : Ms) : Ms := if s.er = 0 then ⟨[], e, plM z s.l⟩ else s
def tlM (s : Ms) : Ms := ⟨s.l.tail, s.er, s.wr⟩
def sgM (z : Nat) (g : List UInt8) (s : Ms) : Ms := if isSg g (hdT s.l) then tlM s else failM z 2 s
def wdM (z : Nat) (g : List UInt8) (s : Ms) : Ms := if isWd g (hdT s.l) then tlM s else failM z 2 s
def nmM (z : Nat) (s : Ms) : Nm × Ms := if (hdT s.l).k = 1 then ((hdT s.l).s, tlM s) else ([], failM z 2 s)
/-- The name that a token is; empty, if it is none. -/
def nxN (t : Tk) : List UInt8 := if t.k = 1 then t.s else []
/-- What a token of kind n says that must stand there. -/
def muM (z n : Nat) (s : Ms) : Nm × Ms := if (hdT s.l).k = n then ((hdT s.l).s, tlM s) else ([], failM z 2 s)
def tyM (z : Nat) (s : Ms) : (Nm × Nm) × Ms := match typeP (s.l.map strip) with
  | some (n, ws, r) => ((n, ws), ⟨s.l.drop (s.l.length - r.length), s.er, s.wr⟩)
  | none => (([], []), failM z 2 s)
/-- A value out of m, a beginning of what is ahead. -/
def vaM (z : Nat) (m : List Tk) (s : Ms) : JV × Ms :=
  let r := pvT 12 (m.map strip)
  let s1 : Ms := ⟨s.l.drop (m.length - r.2.1.length), s.er, s.wr⟩
  if r.2.2 = 0 then (r.1, s1) else (vz, failM z r.2.2 s1)
def notVar (t : Tk) : Bool := !isSg [36] t
def coM (z : Nat) (s : Ms) : JV × Ms := vaM z (s.l.takeWhile notVar) s
/-- One part more, and more, up to the sign e. -/
def moreM {α : Type} (e : List UInt8) (P : Ms → α × Ms) : Nat → Ms → List α → List α × Ms
  | 0, s, acc => (acc, s)
  | n + 1, s, acc => if s.er = 0 then (if isSg e (hdT (P s).2.l) then (acc ++ [(P s).1], tlM (P s).2) else moreM e P n (P s).2 (acc ++ [(P s).1])) else (acc, s)
def svM {α : Type} (z : Nat) (b e : List UInt8) (P : Ms → α × Ms) (s : Ms) : List α × Ms := moreM e P ((sgM z b s).l.length + 1) (sgM z b s) []
def soM {α : Type} (z : Nat) (b e : List UInt8) (P : Ms → α × Ms) (s : Ms) : List α × Ms := if isSg b (hdT s.l) then svM z b e P s else ([], s)
def dfltM (z : Nat) (s : Ms) : JV × Ms := if isSg [61] (hdT s.l) then coM z (tlM s) else (vz, s)
/-! ### an error stays; what reads on goes on -/
def Bad (s : Ms) : Prop := s.er ≠ 0 → s.l = []
theorem bad_tl {s : Ms} (h : Bad s) : Bad (tlM s) := fun he => by show s.l.tail = []; rw [h he]; rfl
end Go.Proofs.YtkahnlgedacppaaGreatDoor
/-
  A row of tokens, as a later call finds it.
-/
namespace Go.Proofs.YtkahnlgedacppaaGreatDoor
open Go.RowKit

theorem tkCells_at : ∀ (ts : List Tk) (j : Nat) (t : Tk), ts[j]? = some t → (tkCells ts)[j * 3]? = some (.int .i64 t.k) ∧ (tkCells ts)[j * 3 + 1]? = some (.string ⟨t.s.toArray⟩) ∧ (tkCells ts)[j * 3 + 2]? = some (.int .i64 t.at_)
  | [], _, _, h => by simp at h
  | a :: ts, 0, t, h => by
    simp only [List.getElem?_cons_zero, Option.some.injEq] at h
    subst h
    exact ⟨rfl, rfl, rfl⟩
  | a :: ts, j + 1, t, h => by
    have := tkCells_at ts j t (by simpa using h)
    have e : tkCells (a :: ts) = [.int .i64 a.k, .string ⟨a.s.toArray⟩, .int .i64 a.at_] ++ tkCells ts := rfl
    rw [e, show (j + 1) * 3 = 3 + j * 3 by omega]
    refine ⟨?_, ?_, ?_⟩
    · rw [List.getElem?_append_right (by simp)]; simpa using this.1
    · rw [List.getElem?_append_right (by simp; omega)]
      rw [show 3 + j * 3 + 1 - [Value.int .i64 a.k, .string ⟨a.s.toArray⟩, .int .i64 a.at_].length = j * 3 + 1 by simp; omega]
      exact this.2.1
    · rw [List.getElem?_append_right (by simp; omega)]
      rw [show 3 + j * 3 + 2 - [Value.int .i64 a.k, .string ⟨a.s.toArray⟩, .int .i64 a.at_].length = j * 3 + 2 by simp; omega]
      exact this.2.2
/-- A row of tokens, as a call finds it. -/
def TkAt (w : World) (a : Option Addr) (ts : List Tk) : Prop := 0 < ts.length → ∃ g, a = some ⟨g, 0, none⟩ ∧ ∀ j u, (tkCells ts)[j]? = some u → w.cell? ⟨g, j, none⟩ = some u
/-- Such a row from any place of its block on. -/
def TkO (w : World) (a : Option Addr) (ts : List Tk) : Prop := 0 < ts.length → ∃ g off, a = some ⟨g, off, none⟩ ∧ ∀ j u, (tkCells ts)[j]? = some u → w.cell? ⟨g, off + j, none⟩ = some u
theorem TkAt.o {w : World} {a : Option Addr} {ts : List Tk} (h : TkAt w a ts) : TkO w a ts := fun h0 => by
  obtain ⟨g, e, hc⟩ := h h0
  exact ⟨g, 0, e, fun j u hj => by rw [Nat.zero_add]; exact hc j u hj⟩
theorem tkAt_of {w : World} {B : Nat} {T : TypeId} {v : Value} {ts : List Tk} (h : w.ownsRow B T 3 v ts.length (tkCells ts)) : ∃ a cap, v = .slice a ts.length cap ∧ ts.length ≤ cap ∧ TkAt w a ts ∧ ∀ w', Below w.heap.size w w' → TkAt w' a ts := by
  rcases h.2 with ⟨hv, h0⟩ | ⟨g, cap, cur, hv, hB, hg, hcap, _⟩
  · exact ⟨none, 0, by rw [hv, h0], by omega, fun h' => absurd h' (by omega), fun _ _ h' => absurd h' (by omega)⟩
  · refine ⟨some ⟨g, 0, none⟩, cap, hv, hcap, fun _ => ⟨g, rfl, fun j u hj => ?_⟩, fun w' hb _ => ⟨g, rfl, fun j u hj => ?_⟩⟩
    · have := h.cells (g := g) (by rw [hv]; rfl) j u hj
      have e : (⟨g, 0, none⟩ : Addr).add j = ⟨g, j, none⟩ := by cases j <;> simp [Addr.add]
      rwa [e] at this
    · have := (own_below h hb).cells (g := g) (by rw [hv]; rfl) j u hj
      have e : (⟨g, 0, none⟩ : Addr).add j = ⟨g, j, none⟩ := by cases j <;> simp [Addr.add]
      rwa [e] at this

theorem lxGo_len : ∀ (f a : Nat) (l : List UInt8) (acc : List Tk), (lxGo f a l acc).1.length ≤ acc.length + l.length
  | 0, _, _, _ => Nat.le_add_right _ _
  | _ + 1, _, [], _ => Nat.le_add_right _ _
  | f + 1, a, b :: r, acc => by
    cases hb : lxBlank b with
    | true =>
      rw [lxGo_blank _ _ _ _ _ hb]
      have := lxGo_len f (a + 1) r acc
      rw [List.length_cons]
      omega
    | false =>
      cases h35 : (b == 35) with
      | true =>
        rw [lxGo_rem _ _ _ _ _ hb h35]
        have := lxGo_len f (a + lxRem (b :: r)) ((b :: r).drop (lxRem (b :: r))) acc
        rw [List.length_drop] at this
        omega
      | false =>
        cases hw : lxWord (b :: r) with
        | none =>
          rw [lxGo_none _ _ _ _ _ hb h35 hw]
          exact Nat.zero_le _
        | some o =>
          obtain ⟨k, s, m⟩ := o
          rw [lxGo_some _ _ _ _ _ hb h35 hw]
          have hp := lxWord_le hw
          have := lxGo_len f (a + m) ((b :: r).drop m) (acc ++ [⟨k, s, a⟩])
          rw [List.length_drop, List.length_append, List.length_singleton] at this
          omega
theorem lexP_len (l : List UInt8) : (lexP l).1.length ≤ 8000 := by
  unfold lexP
  split
  · exact Nat.zero_le _
  · have := lxGo_len (l.length + 1) 0 l []
    simp only [List.length_nil] at this
    omega


end Go.Proofs.YtkahnlgedacppaaGreatDoor
