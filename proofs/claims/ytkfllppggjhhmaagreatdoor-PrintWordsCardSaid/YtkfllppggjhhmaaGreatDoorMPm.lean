/-
  What jval.writeValue and jval.Text write.
-/
import Derived.Test.YtkfllppggjhhmaaGreatDoorMText
import Derived.Test.YtkfllppggjhhmaaGreatDoorMLx3
import Derived.Test.YtkfllppggjhhmaaGreatDoorMLetters
namespace Go.Proofs.YtkfllppggjhhmaaGreatDoor
open Go.RowKit

/-- The builder and the value's box. -/
structure Sb (B b kb : Nat) (bx : Array Value) (l : List UInt8) (w W : World) : Prop where
  bld : Bld 81 B b [] (Lib.byteCells l) W
  bel : Below B w W
  kep : Lib.OthersKept 5 (some b) w W
  box : W.heap[kb]? = some (.cells bx 53 (0, 0))
  le : B ≤ W.heap.size
theorem Sb.write {B b kb : Nat} {bx : Array Value} {l l' : List UInt8} {w W W' : World} (h : Sb B b kb bx l w W) (hkb : kb ≠ b)
    (h1 : Bld 81 B b [] (Lib.byteCells l') W') (h2 : Below B W W') (h3 : Lib.OthersKept 5 (some b) W W') : Sb B b kb bx l' w W' :=
  ⟨h1, h.bel.trans h2, h.kep.trans h3, h3 kb _ h.box (by simpa using hkb) (cells_ne bx), Nat.le_trans h.le h2.size⟩
theorem Sb.below {B b kb : Nat} {bx : Array Value} {l : List UInt8} {w W W' : World} (h : Sb B b kb bx l w W) (hb : Below W.heap.size W W') : Sb B b kb bx l w W' :=
  ⟨h.bld.below hb, h.bel.trans (hb.mono h.le), h.kep.trans (kept_below hb), (hb.block kb (Array.getElem?_eq_some_iff.1 h.box).1).trans h.box, Nat.le_trans h.le hb.size⟩
theorem Sb.cell {B b kb : Nat} {bx : Array Value} {l : List UInt8} {w W : World} (h : Sb B b kb bx l w W) (j : Nat) : W.cell? ⟨kb, j, none⟩ = bx[j]? := Lib.cell_of_heap h.box j
theorem Sb.done {B b kb : Nat} {bx : Array Value} {l l' : List UInt8} {w W : World} (h : Sb B b kb bx l w W) (e : l = l') : Wrote B b l' w (.returned (.tuple #[])) W := by
  subst e; exact ⟨rfl, h.bld, h.bel, h.kep⟩

end Go.Proofs.YtkfllppggjhhmaaGreatDoor
/-
  What refectoryref08.Digits and refectorylaw00.Digits answer: a number's digits.
-/
namespace Go.Proofs.YtkfllppggjhhmaaGreatDoor
open Go.RowKit

def dch (d : Nat) : UInt8 := UInt8.ofNat (48 + d)
/-- The digits of a number that has at most f of them. -/
def dgs : Nat → Nat → List UInt8
  | 0, _ => []
  | f + 1, v => if v < 10 then [dch v] else dgs f (v / 10) ++ [dch (v % 10)]

theorem digit_slice (d : Nat) (hd : d < 10) (w : World) : (Instr.slice 9 (.string ⟨#[48, 49, 50, 51, 52, 53, 54, 55, 56, 57]⟩) (some (.int .i64 (d : Int))) (some (.int .i64 ((d : Int) + 1))) none).run Tryz.prog w = .ok (.string ⟨#[dch d]⟩) w := by
  have hz : digitsS.size = 10 := rfl
  rw [run_slice_string_if _ _ _ _ _ _ _ Tryz.underlying9, if_pos (by show _ ∧ _ ≤ (digitsS.size : Int); omega), if_pos (by omega)]
  have e : ((d : Int) + 1).toNat = d + 1 := by omega
  have e0 : ((d : Int)).toNat = d := by omega
  rw [e, e0]
  match d, hd with
  | 0, _ | 1, _ | 2, _ | 3, _ | 4, _ | 5, _ | 6, _ | 7, _ | 8, _ | 9, _ => rfl

theorem app_one (l : List UInt8) (b : UInt8) : (⟨l.toArray⟩ : ByteArray) ++ ⟨#[b]⟩ = ⟨(l ++ [b]).toArray⟩ := by
  rw [← of_list (⟨l.toArray⟩ ++ ⟨#[b]⟩), app_list]

theorem dgs_len : ∀ f v, (dgs f v).length ≤ f
  | 0, _ => Nat.le_refl _
  | f + 1, v => by
    unfold dgs
    split
    · simp
    · have := dgs_len f (v / 10)
      simp; omega

set_option maxHeartbeats 1000000 in
set_option maxRecDepth 100000 in
theorem refDigits_any : ∀ (f v : Nat) (w : World), v < 10 ^ f → 1 ≤ f → f ≤ 15 →
    Calls Tryz.prog 53 #[.int .i64 v] w fun e w' => e = .returned (.string ⟨(dgs f v).toArray⟩) ∧ ∃ m, w' = w.drewN m
  | 0, _, _, _, h, _ => absurd h (by omega)
  | f + 1, v, w, h, _, hf => by
    have hv : v ≤ 1000000000000000 := by
      have : 10 ^ (f + 1) ≤ 10 ^ 15 := Nat.pow_le_pow_right (by omega) hf
      have e : (10 : Nat) ^ 15 = 1000000000000000 := by decide
      omega
    have d1 : decide ((v : Int) ≤ -10) = false := decide_eq_false (by omega)
    have d2 : decide ((v : Int) < 0) = false := decide_eq_false (by omega)
    by_cases h10 : v < 10
    · have HD := Lib.hid (show [dch v] = dgs (f + 1) v by unfold dgs; rw [if_pos h10])
      have d3 : decide ((v : Int) < 10) = true := by simp; omega
      have hsl := digit_slice v h10
      go_enter Tryz.func53, Tryz.ntmps53
      go_wp2_with fail
      go_ret
      exact ⟨by rw [← HD.out]; rfl, 0, rfl⟩
    · have d3 : decide ((v : Int) < 10) = false := by simp; omega
      have HD := Lib.hid (show dgs f (v / 10) ++ [dch (v % 10)] = dgs (f + 1) v by
        show _ = if v < 10 then _ else _
        rw [if_neg h10])
      have hlt : v / 10 < 10 ^ f := by
        rw [Nat.pow_succ] at h
        omega
      have hf1 : 1 ≤ f := by
        rcases Nat.eq_zero_or_pos f with h0 | h0
        · subst h0; simp at hlt; omega
        · exact h0
      have hih := fun W => refDigits_any f (v / 10) W hlt hf1 (by omega)
      have hl := dgs_len f (v / 10)
      have hd10 : v % 10 < 10 := Nat.mod_lt _ (by omega)
      have q1 : (v : Int).tdiv 10 = ((v / 10 : Nat) : Int) := by rw [Int.tdiv_eq_ediv_of_nonneg (by omega)]; omega
      have q2 : (v : Int).tmod 10 = ((v % 10 : Nat) : Int) := by rw [Int.tmod_eq_emod_of_nonneg (by omega)]; omega
      have q3 : (v : Int) / 10 = ((v / 10 : Nat) : Int) := by omega
      have q4 : (v : Int) % 10 = ((v % 10 : Nat) : Int) := by omega
      have hsl := digit_slice (v % 10) hd10
      have HA := Lib.hid (app_one (dgs f (v / 10)) (dch (v % 10)))
      generalize v % 10 = d at *
      generalize v / 10 = u at *
      have w1 : IntKind.i64.wrap ((d : Int) + 1) = (d : Int) + 1 := IntWalk.i64_in _ (by omega)
      have w2 : IntKind.i64.wrap (d : Int) = (d : Int) := IntWalk.i64_in _ (by omega)
      have w3 : IntKind.i64.wrap (u : Int) = (u : Int) := IntWalk.i64_in _ (by omega)
      generalize dgs f u = L at *
      go_enter Tryz.func53, Tryz.ntmps53
      go_wp2_with fail
      go_quiet ((go_at_call 53; exact Calls.quiet_of (hih _)))
      go_wp2_with fail
      go_ret
      exact ⟨by rw [← HD.out, ← HA.out]; rfl, _, rfl⟩

set_option maxHeartbeats 400000 in
theorem lawDigits_any (f v : Nat) (w : World) (h : v < 10 ^ f) (h1 : 1 ≤ f) (h15 : f ≤ 15) :
    Calls Tryz.prog 22 #[.int .i64 v] w fun e w' => e = .returned (.string ⟨(dgs f v).toArray⟩) ∧ ∃ m, w' = w.drewN m := by
  go_enter Tryz.func22, Tryz.ntmps22
  go_wp2_with fail
  refine (refDigits_any f v _ h h1 h15).mono ?_
  rintro e w1 ⟨rfl, m, rfl⟩
  go_wp2_with fail
  go_ret
  exact ⟨rfl, m, rfl⟩

end Go.Proofs.YtkfllppggjhhmaaGreatDoor
/-
  Plain facts: numbers as they may be written, and not.
-/
namespace Go.Proofs.YtkfllppggjhhmaaGreatDoor
open Go.RowKit

end Go.Proofs.YtkfllppggjhhmaaGreatDoor
/-
  Unlike values have unlike texts: a value's text, with what may stand behind it, says the value.
-/
namespace Go.Proofs.YtkfllppggjhhmaaGreatDoor
open Go.RowKit

/-! ### Numbers -/
theorem taken {p : UInt8 → Bool} : ∀ {l : List UInt8} {b : UInt8}, b ∈ l.takeWhile p → p b = true
  | [], _, h => by cases h
  | a :: t, b, h => by
    rw [List.takeWhile_cons] at h
    split at h
    · rcases List.mem_cons.1 h with e | e
      · subst e; assumption
      · exact taken e
    · cases h
/-! ### Texts in quotes -/
/-! ### A value's first byte says its kind -/
end Go.Proofs.YtkfllppggjhhmaaGreatDoor
/-
  Values of documents: what is read from tokens, what a value's text is, and that the text is read as the value.
-/
namespace Go.Proofs.YtkfllppggjhhmaaGreatDoor
open Go.RowKit

/-- A token without its place. -/
abbrev Sk := Nat × List UInt8
def strip (t : Tk) : Sk := (t.k, t.s)
def hdK (l : List Sk) : Sk := l.headD (0, [])
def sg (t : Sk) (c : UInt8) : Bool := t.1 == 5 && t.2 == [c]
def vx (k : Int) (s : List UInt8) : JV := .mk k ⟨s.toArray⟩ [] []
def vz : JV := .mk 0 ⟨#[]⟩ [] []
def nullS : List UInt8 := [110, 117, 108, 108]
def trueS : List UInt8 := [116, 114, 117, 101]
def falseS : List UInt8 := [102, 97, 108, 115, 101]
def wordV (s : List UInt8) : JV := if s = nullS then vx 1 [] else if s = trueS then vx 2 s else if s = falseS then vx 2 s else vx 6 s
def plainV (t : Sk) : JV := if t.1 = 1 then wordV t.2 else if t.1 = 2 then vx 3 t.2 else if t.1 = 3 then vx 4 t.2 else if t.1 = 4 then vx 5 t.2 else vz

/-- A value, the tokens behind it (or from the wrong one on), the error. -/
abbrev VR := JV × List Sk × Nat

def vListGo (V : List Sk → VR) : Nat → List Sk → List JV → VR
  | 0, l, _ => (vz, l, 2)
  | n + 1, l, xs => if sg (hdK l) 93 then (.mk 7 ⟨#[]⟩ [] xs, l.tail, 0) else
    if (V l).2.2 = 0 then vListGo V n (V l).2.1 (xs ++ [(V l).1]) else (vz, (V l).2.1, (V l).2.2)

def vObjGo (V : List Sk → VR) : Nat → List Sk → List ByteArray → List JV → VR
  | 0, l, _, _ => (vz, l, 2)
  | n + 1, l, ns, xs => if sg (hdK l) 125 then (.mk 8 ⟨#[]⟩ ns xs, l.tail, 0) else
    if (hdK l).1 = 1 then
      if sg (hdK l.tail) 58 then
        if (V l.tail.tail).2.2 = 0 then vObjGo V n (V l.tail.tail).2.1 (ns ++ [⟨(hdK l).2.toArray⟩]) (xs ++ [(V l.tail.tail).1]) else (vz, (V l.tail.tail).2.1, (V l.tail.tail).2.2)
      else (vz, l.tail, 2)
    else (vz, l, 2)

def varV (l : List Sk) : VR := if (hdK l).1 = 1 then (vx 9 (hdK l).2, l.tail, 0) else (vz, l, 2)

/-- A value with at most f levels. -/
def pvT : Nat → List Sk → VR
  | 0, l => if (plainV (hdK l)).k ≠ 0 then (plainV (hdK l), l.tail, 0) else if sg (hdK l) 36 then varV l.tail
    else if sg (hdK l) 91 || sg (hdK l) 123 then (vz, l, 4) else (vz, l, 2)
  | f + 1, l => if (plainV (hdK l)).k ≠ 0 then (plainV (hdK l), l.tail, 0) else if sg (hdK l) 36 then varV l.tail
    else if sg (hdK l) 91 then vListGo (pvT f) l.length l.tail [] else if sg (hdK l) 123 then vObjGo (pvT f) l.length l.tail [] [] else (vz, l, 2)

/-! ### which values may be read -/
def compV (x : JV) : Bool := x.k == 7 || x.k == 8
def leafOk (x : JV) : Bool :=
  if x.k = 1 then decide (x.s.size = 0) else if x.k = 3 then numOk (vbl x.s) && numWhole (vbl x.s) else if x.k = 4 then numOk (vbl x.s) && !numWhole (vbl x.s)
  else if x.k = 5 then Lib.validD (vbl x.s) else if x.k = 9 then nameB (vbl x.s) else if x.k = 2 then nameB (vbl x.s) && decide ((wordV (vbl x.s)).k = 2)
  else if x.k = 6 then nameB (vbl x.s) && decide ((wordV (vbl x.s)).k = 6) else false
def selfV (x : JV) : Bool :=
  if x.k = 7 then decide (x.s.size = 0) && decide (x.ns.length = 0)
  else if x.k = 8 then decide (x.s.size = 0) && decide (x.ns.length = x.ps.length) && x.ns.all (fun n => nameB (vbl n))
  else decide (x.ns.length = 0) && decide (x.ps.length = 0) && leafOk x
def rdOk : Nat → JV → Bool
  | 0, x => selfV x && !compV x
  | m + 1, x => selfV x && (!compV x || x.ps.all (rdOk m))

/-! ### their tokens, their texts -/
def leafT (x : JV) : List UInt8 := if x.k = 1 then nullS else if x.k = 5 then quoteB (vbl x.s) else if x.k = 9 then 36 :: vbl x.s else vbl x.s
def vpts (f : JV → List UInt8) (ob : Bool) : Bool → List ByteArray → List JV → List UInt8
  | _, _, [] => []
  | fst, ns, p :: r => (if fst then [] else [32]) ++ ((if ob then vbl (ns.headD ⟨#[]⟩) ++ [58] else []) ++ (f p ++ vpts f ob false ns.tail r))
def vtxt : Nat → JV → List UInt8
  | 0, x => if compV x then [] else leafT x
  | m + 1, x => if x.k = 7 then [91] ++ (vpts (vtxt m) false true x.ns x.ps ++ [93]) else if x.k = 8 then [123] ++ (vpts (vtxt m) true true x.ns x.ps ++ [125]) else leafT x

/-! ### the text's tokens -/
theorem vs_object {x : JV} (hk : x.k = 8) (h : selfV x = true) : x.s.size = 0 ∧ x.ns.length = x.ps.length ∧ ∀ n ∈ x.ns, nameB (vbl n) = true := by
  unfold selfV at h
  rw [if_neg (by omega), if_pos hk, Bool.and_eq_true, Bool.and_eq_true, decide_eq_true_eq, decide_eq_true_eq, List.all_eq_true] at h
  exact ⟨h.1.1, h.1.2, h.2⟩
theorem comp_no {x : JV} (h7 : x.k ≠ 7) (h8 : x.k ≠ 8) : compV x = false := by
  unfold compV
  rw [Bool.or_eq_false_iff, beq_eq_false_iff_ne, beq_eq_false_iff_ne]
  exact ⟨h7, h8⟩
theorem vtxt_leaf {m : Nat} {x : JV} (h7 : x.k ≠ 7) (h8 : x.k ≠ 8) : vtxt m x = leafT x := by
  cases m with
  | zero => unfold vtxt; rw [if_neg (by rw [comp_no h7 h8]; decide)]
  | succ m => unfold vtxt; rw [if_neg h7, if_neg h8]
/-! ### the tokens are read as the value -/
theorem JV.eta (x : JV) : x = .mk x.k x.s x.ns x.ps := by cases x; rfl
/-! ### a value that is read is ahead of less -/
theorem list_less (V : List Sk → VR) (hV : ∀ l, (V l).2.2 = 0 → (V l).2.1.length < l.length) : ∀ (n : Nat) (l : List Sk) (xs : List JV), (vListGo V n l xs).2.2 = 0 → (vListGo V n l xs).2.1.length < l.length
  | 0, _, _, h => absurd h (Nat.succ_ne_zero 1)
  | n + 1, l, xs, h => by
    unfold vListGo at h ⊢
    split
    · rename_i hs
      cases l with
      | nil => exact absurd hs (by decide)
      | cons t r => show r.length < r.length + 1; omega
    · rename_i hs
      rw [if_neg hs] at h
      split
      · rename_i hv
        rw [if_pos hv] at h
        have h1 := hV l hv
        have h2 := list_less V hV n _ _ h
        omega
      · rename_i hv
        rw [if_neg hv] at h
        exact absurd h hv
theorem obj_less (V : List Sk → VR) (hV : ∀ l, (V l).2.2 = 0 → (V l).2.1.length < l.length) : ∀ (n : Nat) (l : List Sk) (ns : List ByteArray) (xs : List JV), (vObjGo V n l ns xs).2.2 = 0 → (vObjGo V n l ns xs).2.1.length < l.length
  | 0, _, _, _, h => absurd h (Nat.succ_ne_zero 1)
  | n + 1, l, ns, xs, h => by
    unfold vObjGo at h ⊢
    split
    · rename_i hs
      cases l with
      | nil => exact absurd hs (by decide)
      | cons t r => show r.length < r.length + 1; omega
    · rename_i hs
      rw [if_neg hs] at h
      split
      · rename_i h1
        rw [if_pos h1] at h
        split
        · rename_i h2
          rw [if_pos h2] at h
          split
          · rename_i hv
            rw [if_pos hv] at h
            have h3 := hV _ hv
            have h4 := obj_less V hV n _ _ _ h
            have h5 : l.tail.tail.length ≤ l.length := by rw [List.length_tail, List.length_tail]; omega
            omega
          · rename_i hv
            rw [if_neg hv] at h
            exact absurd h hv
        · rename_i h2
          rw [if_neg h2] at h
          exact absurd h (Nat.succ_ne_zero _)
      · rename_i h1
        rw [if_neg h1] at h
        exact absurd h (Nat.succ_ne_zero _)
theorem plain_ne {l : List Sk} (h : (plainV (hdK l)).k ≠ 0) : l.tail.length < l.length := by
  cases l with
  | nil => exact absurd rfl h
  | cons t r => show r.length < r.length + 1; omega
theorem sg_ne {l : List Sk} {c : UInt8} (h : sg (hdK l) c = true) : l.tail.length < l.length := by
  cases l with
  | nil => exact absurd h (by unfold sg hdK; simp)
  | cons t r => show r.length < r.length + 1; omega
theorem var_le (l : List Sk) : (varV l).2.1.length ≤ l.length := by
  unfold varV
  split
  · show l.tail.length ≤ _; rw [List.length_tail]; omega
  · exact Nat.le_refl _
theorem pvT_less : ∀ (f : Nat) (l : List Sk), (pvT f l).2.2 = 0 → (pvT f l).2.1.length < l.length
  | 0, l, h => by
    unfold pvT at h ⊢
    split
    · rename_i h1; exact plain_ne h1
    · rename_i h1
      rw [if_neg h1] at h
      split
      · rename_i h2; have := sg_ne h2; have := var_le l.tail; omega
      · rename_i h2
        rw [if_neg h2] at h
        split at h <;> exact absurd h (Nat.succ_ne_zero _)
  | f + 1, l, h => by
    unfold pvT at h ⊢
    split
    · rename_i h1; exact plain_ne h1
    · rename_i h1
      rw [if_neg h1] at h
      split
      · rename_i h2; have := sg_ne h2; have := var_le l.tail; omega
      · rename_i h2
        rw [if_neg h2] at h
        split
        · rename_i h3
          rw [if_pos h3] at h
          have := sg_ne h3
          have := list_less (pvT f) (pvT_less f) _ _ _ h
          omega
        · rename_i h3
          rw [if_neg h3] at h
          split
          · rename_i h4
            rw [if_pos h4] at h
            have := sg_ne h4
            have := obj_less (pvT f) (pvT_less f) _ _ _ _ h
            omega
          · rename_i h4
            rw [if_neg h4] at h
            exact absurd h (Nat.succ_ne_zero _)

end Go.Proofs.YtkfllppggjhhmaaGreatDoor
/-
  Types of documents: what is read from tokens, a type's text, and that the text is read as the type.
-/
namespace Go.Proofs.YtkfllppggjhhmaaGreatDoor
open Go.RowKit

/-- The one ! that may stand here. -/
def bangP (l : List Sk) : List UInt8 × List Sk := if sg (hdK l) 33 then ([33], l.tail) else ([], l)
/-- So many lists end. -/
def tyEnds : Nat → List Sk → List UInt8 → Option (List UInt8 × List Sk)
  | 0, l, ws => some (ws, l)
  | n + 1, l, ws => if sg (hdK l) 93 then tyEnds n (bangP l.tail).2 (ws ++ (93 :: (bangP l.tail).1)) else none
/-- At most so many lists begin. -/
def opensN : Nat → List Sk → Nat
  | 0, _ => 0
  | k + 1, l => if sg (hdK l) 91 then opensN k l.tail + 1 else 0
def opensL : Nat → List Sk → List Sk
  | 0, l => l
  | k + 1, l => if sg (hdK l) 91 then opensL k l.tail else l
/-- A type: its name, its wraps, the tokens behind it. -/
def typeP (l : List Sk) : Option (List UInt8 × List UInt8 × List Sk) :=
  if (hdK (opensL 12 l)).1 = 1 then (tyEnds (opensN 12 l) (bangP (opensL 12 l).tail).2 (bangP (opensL 12 l).tail).1).map fun q => ((hdK (opensL 12 l)).2, q.1, q.2) else none

theorem opens_le : ∀ (k : Nat) (l : List Sk), opensN k l ≤ k
  | 0, _ => Nat.le_refl _
  | k + 1, l => by
    unfold opensN
    split
    · have := opens_le k l.tail; omega
    · omega

/-! ### which types may be -/
def wrOk : List UInt8 → Bool
  | [] => true
  | [b] => b == 33 || b == 93
  | b :: c :: r => (b == 33 || b == 93) && !(b == 33 && c == 33) && wrOk (c :: r)
def cnt93 : List UInt8 → Nat
  | [] => 0
  | b :: r => (if b == 93 then 1 else 0) + cnt93 r
def tyOk (n ws : List UInt8) : Bool := nameB n && (wrOk ws && decide (cnt93 ws ≤ 12))
def tyText (n ws : List UInt8) : List UInt8 := List.replicate (cnt93 ws) 91 ++ (n ++ ws)
def wk (ws : List UInt8) : List Sk := ws.map fun b => (5, [b])
/-! ### its tokens -/
/-! ### the tokens are read as the type -/
theorem bang_no {l : List Sk} (h : sg (hdK l) 33 = false) : bangP l = ([], l) := by unfold bangP; rw [if_neg (by rw [h]; decide)]
end Go.Proofs.YtkfllppggjhhmaaGreatDoor
/-
  Documents, from their tokens: what is read, and where it is wrong. No world: plain functions alone.
-/
namespace Go.Proofs.YtkfllppggjhhmaaGreatDoor
open Go.RowKit

abbrev Nm := List UInt8
abbrev ArgT := Nm × JV
abbrev DirT := Nm × List ArgT
/-- A selection: its kind (1 field, 2 spread, 3 inline), alias, name, type, arguments, directives, selections. -/
inductive SelT where
  | mk (k : Int) (al nm on_ : Nm) (args : List ArgT) (dirs : List DirT) (sels : List SelT)
def SelT.k : SelT → Int
  | .mk k _ _ _ _ _ _ => k
def SelT.al : SelT → Nm
  | .mk _ a _ _ _ _ _ => a
def SelT.nm : SelT → Nm
  | .mk _ _ n _ _ _ _ => n
def SelT.on_ : SelT → Nm
  | .mk _ _ _ o _ _ _ => o
def SelT.args : SelT → List ArgT
  | .mk _ _ _ _ a _ _ => a
def SelT.dirs : SelT → List DirT
  | .mk _ _ _ _ _ d _ => d
def SelT.sels : SelT → List SelT
  | .mk _ _ _ _ _ _ s => s
structure VarT where
  nm : Nm
  ty : Nm × Nm
  dflt : JV
structure OpT where
  mut_ : Bool
  nm : Nm
  vars : List VarT
  dirs : List DirT
  sels : List SelT
structure FragT where
  nm : Nm
  on_ : Nm
  dirs : List DirT
  sels : List SelT
structure DocT where
  ops : List OpT
  frags : List FragT

/-- What is read, the tokens behind it (or from the wrong one on), the error. -/
abbrev PR (α : Type) := α × List Sk × Nat
def onS : Nm := [111, 110]
def queryS : Nm := [113, 117, 101, 114, 121]
def mutS : Nm := [109, 117, 116, 97, 116, 105, 111, 110]
def fragS : Nm := [102, 114, 97, 103, 109, 101, 110, 116]
def docZ : DocT := ⟨[], []⟩
/-! ### the document's example, and the texts of the other laws -/
end Go.Proofs.YtkfllppggjhhmaaGreatDoor
/-
  doc's parser as it goes: what is ahead of it, the error that it keeps. Plain functions alone.
-/
namespace Go.Proofs.YtkfllppggjhhmaaGreatDoor
open Go.RowKit

/-- What is ahead of the parser, the error that it keeps, where. -/
structure Ms where
  l : List Tk
  er : Nat
  wr : Nat
def hdT (l : List Tk) : Tk := l.headD ⟨0, [], 0⟩
def isSg (g : List UInt8) (t : Tk) : Bool := t.k == 5 && t.s == g
def isWd (g : List UInt8) (t : Tk) : Bool := t.k == 1 && t.s == g
/-- The byte of the token ahead; at the end, of the end. -/
def plM (z : Nat) : List Tk → Nat
  | [] => z
  | t :: _ => t.at_
def failM (z e : Nat) (s : Ms) : Ms := if s.er = 0 then ⟨[], e, plM z s.l⟩ else s
def tlM (s : Ms) : Ms := ⟨s.l.tail, s.er, s.wr⟩
def sgM (z : Nat) (g : List UInt8) (s : Ms) : Ms := if isSg g (hdT s.l) then tlM s else failM z 2 s
def wdM (z : Nat) (g : List UInt8) (s : Ms) : Ms := if isWd g (hdT s.l) then tlM s else failM z 2 s
def nmM (z : Nat) (s : Ms) : Nm × Ms := if (hdT s.l).k = 1 then ((hdT s.l).s, tlM s) else ([], failM z 2 s)
def nnM (z : Nat) (s : Ms) : Nm × Ms := if (hdT s.l).k = 1 then nmM z s else ([], s)
def tyM (z : Nat) (s : Ms) : (Nm × Nm) × Ms := match typeP (s.l.map strip) with
  | some (n, ws, r) => ((n, ws), ⟨s.l.drop (s.l.length - r.length), s.er, s.wr⟩)
  | none => (([], []), failM z 2 s)
/-- A value out of m, a beginning of what is ahead. -/
def vaM (z : Nat) (m : List Tk) (s : Ms) : JV × Ms :=
  let r := pvT 12 (m.map strip)
  let s1 : Ms := ⟨s.l.drop (m.length - r.2.1.length), s.er, s.wr⟩
  if r.2.2 = 0 then (r.1, s1) else (vz, failM z r.2.2 s1)
def notVar (t : Tk) : Bool := !isSg [36] t
def vlM (z : Nat) (s : Ms) : JV × Ms := vaM z s.l s
def coM (z : Nat) (s : Ms) : JV × Ms := vaM z (s.l.takeWhile notVar) s
/-- One part more, and more, up to the sign e. -/
def moreM {α : Type} (e : List UInt8) (P : Ms → α × Ms) : Nat → Ms → List α → List α × Ms
  | 0, s, acc => (acc, s)
  | n + 1, s, acc => if s.er = 0 then (if isSg e (hdT (P s).2.l) then (acc ++ [(P s).1], tlM (P s).2) else moreM e P n (P s).2 (acc ++ [(P s).1])) else (acc, s)
def svM {α : Type} (z : Nat) (b e : List UInt8) (P : Ms → α × Ms) (s : Ms) : List α × Ms := moreM e P ((sgM z b s).l.length + 1) (sgM z b s) []
def soM {α : Type} (z : Nat) (b e : List UInt8) (P : Ms → α × Ms) (s : Ms) : List α × Ms := if isSg b (hdT s.l) then svM z b e P s else ([], s)
def arM (z : Nat) (s : Ms) : ArgT × Ms := (((nmM z s).1, (vlM z (sgM z [58] (nmM z s).2)).1), (vlM z (sgM z [58] (nmM z s).2)).2)
def asM (z : Nat) (s : Ms) : List ArgT × Ms := soM z [40] [41] (arM z) s
def diM (z : Nat) (s : Ms) : DirT × Ms := (((nmM z s).1, (asM z (nmM z s).2).1), (asM z (nmM z s).2).2)
def dsM (z : Nat) : Nat → Ms → List DirT → List DirT × Ms
  | 0, s, acc => (acc, s)
  | n + 1, s, acc => if isSg [64] (hdT s.l) then dsM z n (diM z (tlM s)).2 (acc ++ [(diM z (tlM s)).1]) else (acc, s)
def dirM (z : Nat) (s : Ms) : List DirT × Ms := dsM z (s.l.length + 1) s []
/-- What stands ahead of a default. -/
def vhM (z : Nat) (s : Ms) : (Nm × (Nm × Nm)) × Ms := (((nmM z (sgM z [36] s)).1, (tyM z (sgM z [58] (nmM z (sgM z [36] s)).2)).1), (tyM z (sgM z [58] (nmM z (sgM z [36] s)).2)).2)
def dfltM (z : Nat) (s : Ms) : JV × Ms := if isSg [61] (hdT s.l) then coM z (tlM s) else (vz, s)
def vdM (z : Nat) (s : Ms) : VarT × Ms := (⟨(vhM z s).1.1, (vhM z s).1.2, (dfltM z (vhM z s).2).1⟩, (dfltM z (vhM z s).2).2)
def dotS : List UInt8 := [46, 46, 46]
def spM (z : Nat) (s : Ms) : SelT × Ms := (.mk 2 [] (nmM z s).1 [] [] (dirM z (nmM z s).2).1 [], (dirM z (nmM z s).2).2)
def onM (z : Nat) (s : Ms) : Nm × Ms := if isWd onS (hdT s.l) then nmM z (tlM s) else ([], s)
def inM (z : Nat) (S : Ms → List SelT × Ms) (s : Ms) : SelT × Ms :=
  (.mk 3 [] [] (onM z s).1 [] (dirM z (onM z s).2).1 (S (dirM z (onM z s).2).2).1, (S (dirM z (onM z s).2).2).2)
def alM (z : Nat) (n : Nm × Ms) : (Nm × Nm) × Ms := if isSg [58] (hdT n.2.l) then ((n.1, (nmM z (tlM n.2)).1), (nmM z (tlM n.2)).2) else (([], n.1), n.2)
def ssM (S : Ms → List SelT × Ms) (s : Ms) : List SelT × Ms := if isSg [123] (hdT s.l) then S s else ([], s)
def fiM (z : Nat) (S : Ms → List SelT × Ms) (s : Ms) : SelT × Ms :=
  let an := alM z (nmM z s)
  let a := asM z an.2
  let d := dirM z a.2
  let ss := ssM S d.2
  (.mk 1 an.1.1 an.1.2 [] a.1 d.1 ss.1, ss.2)
def slM (z : Nat) (S : Ms → List SelT × Ms) (s : Ms) : SelT × Ms :=
  if isSg dotS (hdT s.l) then (if (hdT (tlM s).l).k == 1 && !isWd onS (hdT (tlM s).l) then spM z (tlM s) else inM z S (tlM s)) else fiM z S s
/-- A selection set with at most f levels. -/
def setM (z : Nat) : Nat → Ms → List SelT × Ms
  | 0, s => ([], sgM z [123] (if isSg [123] (hdT s.l) then failM z 4 s else s))
  | f + 1, s => svM z [123] [125] (slM z (setM z f)) s
def mqM (z : Nat) (s : Ms) : Bool × Ms := if isWd mutS (hdT s.l) then (true, tlM s) else (false, wdM z queryS s)
def varsM (z : Nat) (s : Ms) : List VarT × Ms := soM z [40] [41] (vdM z) s
def hedM (z : Nat) (s : Ms) : OpT × Ms :=
  let m := mqM z s
  let n := nnM z m.2
  let v := varsM z n.2
  let d := dirM z v.2
  (⟨m.1, n.1, v.1, d.1, []⟩, d.2)
def oheM (z : Nat) (s : Ms) : OpT × Ms := if isSg [123] (hdT s.l) then (⟨false, [], [], [], []⟩, s) else hedM z s
def opeM (z : Nat) (s : Ms) : OpT × Ms := (⟨(oheM z s).1.mut_, (oheM z s).1.nm, (oheM z s).1.vars, (oheM z s).1.dirs, (setM z 12 (oheM z s).2).1⟩, (setM z 12 (oheM z s).2).2)
def fnmM (z : Nat) (s : Ms) : Nm × Ms := nmM z (if isWd onS (hdT s.l) then failM z 2 s else s)
def fraM (z : Nat) (s : Ms) : FragT × Ms :=
  let n := fnmM z s
  let o := nmM z (wdM z onS n.2)
  let d := dirM z o.2
  let ss := setM z 12 d.2
  (⟨n.1, o.1, d.1, ss.1⟩, ss.2)
def defM (z : Nat) (d : DocT) (s : Ms) : DocT × Ms :=
  if isWd fragS (hdT s.l) then (⟨d.ops, d.frags ++ [(fraM z (tlM s)).1]⟩, (fraM z (tlM s)).2) else (⟨d.ops ++ [(opeM z s).1], d.frags⟩, (opeM z s).2)
def dgoM (z : Nat) : Nat → DocT → Ms → DocT × Ms
  | 0, d, s => (d, s)
  | n + 1, d, s => if s.l.isEmpty then (d, s) else dgoM z n (defM z d s).1 (defM z d s).2
def dcM (z : Nat) (s : Ms) : DocT × Ms := dgoM z ((defM z docZ s).2.l.length + 1) (defM z docZ s).1 (defM z docZ s).2
/-- Parse: the document, the place, the error. -/
def parseM (s : List UInt8) : DocT × Nat × Nat :=
  if 4000 < s.length then (docZ, 0, 3) else if (lexP s).2.2 = 0 then
    (if 600 < (lexP s).1.length then (docZ, 0, 3) else
      if (dcM s.length ⟨(lexP s).1, 0, 0⟩).2.er = 0 then ((dcM s.length ⟨(lexP s).1, 0, 0⟩).1, 0, 0) else (docZ, (dcM s.length ⟨(lexP s).1, 0, 0⟩).2.wr, (dcM s.length ⟨(lexP s).1, 0, 0⟩).2.er))
  else (docZ, (lexP s).2.1, (lexP s).2.2)

/-! ### an error stays; what reads on goes on -/
def Bad (s : Ms) : Prop := s.er ≠ 0 → s.l = []
theorem bad_tl {s : Ms} (h : Bad s) : Bad (tlM s) := fun he => by show s.l.tail = []; rw [h he]; rfl
end Go.Proofs.YtkfllppggjhhmaaGreatDoor
/-
  print's writer as it goes: plain functions alone.
-/
namespace Go.Proofs.YtkfllppggjhhmaaGreatDoor
open Go.RowKit

/-- What the writer wrote, how much room there is, whether there was more. -/
structure Ws where
  out : List UInt8
  room : Nat
  full : Bool
def wrT (s : List UInt8) (w : Ws) : Ws := if w.full then w else if w.room < s.length then ⟨w.out, w.room, true⟩ else ⟨w.out ++ s, w.room - s.length, false⟩
def wrs : List (List UInt8) → Ws → Ws
  | [], w => w
  | s :: r, w => wrs r (wrT s w)
/-- A value's text, a type's text: empty, where there is none. -/
def valB (x : JV) : List UInt8 := if rdOk 12 x then vtxt 12 x else []
def tyTx (n ws : List UInt8) : List UInt8 := if tyOk n ws then tyText n ws else []
/-- Parts one behind the other, each with what room there is left. -/
def mfs (F : JV → Nat → Option Nat) : List JV → Nat → Option Nat
  | [], r => some r
  | p :: ps, r => match F p r with
    | none => none
    | some r' => mfs F ps r'
/-- A byte of room for each value, so deep. -/
def mfV : Nat → JV → Nat → Option Nat
  | 0, _, _ => none
  | f + 1, x, r => if r = 0 then none else mfs (mfV f) x.ps (r - 1)
def valW (x : JV) (w : Ws) : Ws := if (mfV 13 x w.room).isSome then wrT (valB x) w else w
def svW {α : Type} (P : α → Ws → Ws) (bt : List UInt8) : Bool → List α → Ws → Ws
  | _, [], w => w
  | fst, x :: r, w => if w.full then w else svW P bt false r (P x (if fst then w else wrT bt w))
def brW {α : Type} (P : α → Ws → Ws) (xs : List α) (w : Ws) : Ws := if xs.isEmpty then w else wrT [41] (svW P [32] true xs (wrT [40] w))
def argW (a : ArgT) (w : Ws) : Ws := valW a.2 (wrs [a.1, [58]] w)
def argsW (l : List ArgT) (w : Ws) : Ws := brW argW l w
def dirW (d : DirT) (w : Ws) : Ws := argsW d.2 (wrs [[64], d.1] w)
def dirsW (l : List DirT) (w : Ws) : Ws := svW dirW [] true l w
def varW (v : VarT) (w : Ws) : Ws := if v.dflt.k = 0 then wrs [[36], v.nm, [58], tyTx v.ty.1 v.ty.2] w else valW v.dflt (wrs [[61]] (wrs [[36], v.nm, [58], tyTx v.ty.1 v.ty.2] w))
def onB : List UInt8 := [111, 110, 32]
def alW (al : Nm) (w : Ws) : Ws := if al.isEmpty then w else wrs [al, [58]] w
def onW (o : Nm) (w : Ws) : Ws := if o.isEmpty then w else wrs [onB, o] w
def fldW (S : List SelT → Ws → Ws) (x : SelT) (w : Ws) : Ws :=
  if x.sels.isEmpty then dirsW x.dirs (argsW x.args (wrs [x.nm] (alW x.al w))) else S x.sels (dirsW x.dirs (argsW x.args (wrs [x.nm] (alW x.al w))))
def inlW (S : List SelT → Ws → Ws) (x : SelT) (w : Ws) : Ws := S x.sels (dirsW x.dirs (onW x.on_ (wrs [dotS] w)))
def selW (S : List SelT → Ws → Ws) (x : SelT) (w : Ws) : Ws :=
  if x.k = 1 then fldW S x w else if x.k = 2 then dirsW x.dirs (wrs [dotS, x.nm] w) else if x.k = 3 then inlW S x w else w
def setW : Nat → List SelT → Ws → Ws
  | 0, _, w => wrs [[125]] (wrs [[123]] w)
  | n + 1, l, w => wrs [[125]] (svW (selW (setW n)) [32] true l (wrs [[123]] w))
/-- No more than so many sets in one another. -/
def dpS : Nat → List SelT → Bool
  | 0, l => l.isEmpty
  | m + 1, l => l.all fun x => dpS m x.sels
def opnW (n : Nm) (w : Ws) : Ws := if n.isEmpty then w else wrs [[32], n] w
def opW (o : OpT) (w : Ws) : Ws := setW 100 o.sels (dirsW o.dirs (brW varW o.vars (opnW o.nm (wrs [if o.mut_ then mutS else queryS] w))))
def fragW (f : FragT) (w : Ws) : Ws := setW 100 f.sels (dirsW f.dirs (wrs [fragS ++ [32], f.nm, [32, 111, 110, 32], f.on_] w))
def midW (d : DocT) (w : Ws) : Ws := if !d.ops.isEmpty && !d.frags.isEmpty then wrs [[32]] w else w
def docW (d : DocT) (w : Ws) : Ws := svW fragW [32] true d.frags (midW d (svW opW [32] true d.ops w))
def outW (w : Ws) : List UInt8 := if w.full then [] else w.out
/-- The text that is tried; the text of selections. -/
def docT (d : DocT) : List UInt8 := outW (docW d ⟨[], 4000, false⟩)
def selsT (l : List SelT) : List UInt8 := outW (setW 100 l ⟨[], 9223372036854775807, false⟩)
/-- Doc's answer. -/
def PrintIs (d : DocT) (s : List UInt8) : Prop := (parseM (docT d) = (d, 0, 0) → s = docT d) ∧ (parseM (docT d) ≠ (d, 0, 0) → s = [])

def docOne : DocT := ⟨[⟨false, [], [], [], [.mk 1 [] [97] [] [] [] []]⟩], []⟩
theorem pm_one : docT docOne = [113, 117, 101, 114, 121, 123, 97, 125] := by kernel_rfl
theorem pm_back : parseM (docT docOne) = (docOne, 0, 0) := by kernel_rfl
theorem pm_blank : parseM [123, 32, 97, 32, 125] = (docOne, 0, 0) := by kernel_rfl

end Go.Proofs.YtkfllppggjhhmaaGreatDoor
