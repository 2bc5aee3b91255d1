/-
  sdl's parser again, where types and defaults are plain ones: what is read does not ask how much stands behind.
-/
import Derived.Test.YtkahnlgedacppaaGreatDoorMKa2
namespace Go.Proofs.YtkahnlgedacppaaGreatDoor
open Go.RowKit

def tyQ (z : Nat) (s : Ms) : (Nm × Nm) × Ms :=
  if (hdT s.l).k == 1 && !(isSg [33] (hdT s.l.tail)) then (((hdT s.l).s, []), tlM s)
  else if isSg [91] (hdT s.l) && ((hdT s.l.tail).k == 1 && (isSg [33] (hdT s.l.tail.tail) && (isSg [93] (hdT s.l.tail.tail.tail) && isSg [33] (hdT s.l.tail.tail.tail.tail)))) then (((hdT s.l.tail).s, [33, 93, 33]), ⟨s.l.drop 5, s.er, s.wr⟩)
  else tyM z s
def coQ (z : Nat) (s : Ms) : JV × Ms :=
  if ((hdT s.l).k == 1 || (hdT s.l).k == 2) && !((plainV (strip (hdT s.l))).k == 0) then (plainV (strip (hdT s.l)), tlM s) else coM z s
def dfltQ (z : Nat) (s : Ms) : JV × Ms := if isSg [61] (hdT s.l) then coQ z (tlM s) else (vz, s)
def ihQ (z : Nat) (s : Ms) : (Nm × (Nm × Nm)) × Ms := (((deM z s).1, (tyQ z (sgM z [58] (deM z s).2)).1), (tyQ z (sgM z [58] (deM z s).2)).2)
def inpQ (z : Nat) (s : Ms) : VarT × Ms := (⟨(ihQ z s).1.1, (ihQ z s).1.2, (dfltQ z (ihQ z s).2).1⟩, (dfltQ z (ihQ z s).2).2)
def argsQ (z : Nat) (s : Ms) : List VarT × Ms := soM z [40] [41] (inpQ z) s
def fldQ (z : Nat) (s : Ms) : FldT × Ms :=
  let n := deM z s
  let a := argsQ z n.2
  let t := tyQ z (sgM z [58] a.2)
  let c := costM z t.2
  (⟨n.1, a.1, t.1, c.1⟩, c.2)
def flsQ (z : Nat) (s : Ms) : List FldT × Ms := svM z [123] [125] (fldQ z) s
def objQ (z : Nat) (s : Ms) : TypT × Ms :=
  let n := nmM z s
  let i := impM z n.2
  let f := flsQ z i.2
  (⟨2, n.1, i.1, f.1, []⟩, f.2)
def facQ (z : Nat) (s : Ms) : TypT × Ms :=
  let n := nmM z s
  let f := flsQ z n.2
  (⟨3, n.1, [], f.1, []⟩, f.2)
def iptQ (z : Nat) (s : Ms) : TypT × Ms :=
  let n := nmM z s
  let l := svM z [123] [125] (inpQ z) n.2
  (⟨6, n.1, [], [], l.1⟩, l.2)
def sdfQ (z : Nat) (b : Bool) (x : SchT) (s : Ms) : (SchT × Bool) × Ms :=
  let s0 := txM s
  let w := nxN (hdT s0.l)
  let s1 := tlM s0
  if w == schemaS && b then (((rooM z x s1).1, false), (rooM z x s1).2)
  else if w == scalarS then (((addT x (sclM z s1)).1, b), (addT x (sclM z s1)).2)
  else if w == typeS then (((addT x (objQ z s1)).1, b), (addT x (objQ z s1)).2)
  else if w == faceS then (((addT x (facQ z s1)).1, b), (addT x (facQ z s1)).2)
  else if w == unionS then (((addT x (uniM z s1)).1, b), (addT x (uniM z s1)).2)
  else if w == enumS then (((addT x (enuM z s1)).1, b), (addT x (enuM z s1)).2)
  else if w == inputS then (((addT x (iptQ z s1)).1, b), (addT x (iptQ z s1)).2)
  else ((x, b), failM z 2 s0)

theorem ty_Q : tyM = tyQ := by
  funext z s
  unfold tyQ
  split
  · rename_i h
    rw [Bool.and_eq_true, beq_iff_eq, Bool.not_eq_true'] at h
    obtain ⟨h1, h2⟩ := h
    obtain ⟨l, er, wr⟩ := s
    cases l with
    | nil => cases h1
    | cons t r =>
      obtain ⟨k, n, a⟩ := t
      have h1 : k = 1 := h1
      subst h1
      have h2 : isSg [33] (hdT r) = false := h2
      have hb : bangP (r.map strip) = ([], r.map strip) := by
        unfold bangP
        have e : sg (hdK (r.map strip)) 33 = isSg [33] (hdT r) := by cases r <;> rfl
        rw [e, h2]
        rfl
      have ht : typeP (strip ⟨1, n, a⟩ :: r.map strip) = some (n, [], r.map strip) := by
        have e : typeP (strip ⟨1, n, a⟩ :: r.map strip) = (tyEnds 0 (bangP (r.map strip)).2 (bangP (r.map strip)).1).map fun q => (n, q.1, q.2) := rfl
        rw [e, hb]
        rfl
      unfold tyM
      rw [List.map_cons, ht]
      dsimp only
      rw [List.length_cons, List.length_map, Nat.add_sub_cancel_left]
      rfl
  · split
    · rename_i h
      simp only [Bool.and_eq_true, beq_iff_eq] at h
      obtain ⟨h1, h2, h3, h4, h5⟩ := h
      have key : ∀ (l : List Tk) (c : UInt8), isSg [c] (hdT l) = true → ∃ a r, l = ⟨5, [c], a⟩ :: r := by
        intro l c h
        cases l with
        | nil => cases h
        | cons t r =>
          obtain ⟨k, n, a⟩ := t
          unfold isSg at h
          simp only [Bool.and_eq_true, beq_iff_eq] at h
          obtain ⟨h1, h2⟩ := h
          have h1 : k = 5 := h1
          have h2 : n = [c] := h2
          subst h1 h2
          exact ⟨a, r, rfl⟩
      obtain ⟨l, er, wr⟩ := s
      obtain ⟨a1, r1, e1⟩ := key _ _ h1
      have e1 : l = _ := e1
      subst e1
      cases r1 with
      | nil => cases h2
      | cons t r1 =>
        obtain ⟨k, n, a⟩ := t
        have h2 : k = 1 := h2
        subst h2
        obtain ⟨a3, r3, e3⟩ := key _ _ h3
        have e3 : r1 = _ := e3
        subst e3
        obtain ⟨a4, r4, e4⟩ := key _ _ h4
        have e4 : r3 = _ := e4
        subst e4
        obtain ⟨a5, r5, e5⟩ := key _ _ h5
        have e5 : r4 = _ := e5
        subst e5
        have ht : typeP ((⟨5, [91], a1⟩ :: ⟨1, n, a⟩ :: ⟨5, [33], a3⟩ :: ⟨5, [93], a4⟩ :: ⟨5, [33], a5⟩ :: r5 : List Tk).map strip) = some (n, [33, 93, 33], r5.map strip) := rfl
        unfold tyM
        rw [ht]
        dsimp only
        rw [List.length_map, show (⟨5, [91], a1⟩ :: ⟨1, n, a⟩ :: ⟨5, [33], a3⟩ :: ⟨5, [93], a4⟩ :: ⟨5, [33], a5⟩ :: r5 : List Tk).length - r5.length = 5 by simp only [List.length_cons]; omega]
        rfl
    · rfl
theorem co_Q : coM = coQ := by
  funext z s
  unfold coQ
  split
  · rename_i h
    rw [Bool.and_eq_true, Bool.not_eq_true', beq_eq_false_iff_ne, Bool.or_eq_true, beq_iff_eq, beq_iff_eq] at h
    obtain ⟨h1, h2⟩ := h
    obtain ⟨l, er, wr⟩ := s
    cases l with
    | nil => rcases h1 with h1 | h1 <;> cases h1
    | cons t r =>
      have hn : notVar t = true := by
        obtain ⟨k, n, a⟩ := t
        have h1 : k = 1 ∨ k = 2 := h1
        rcases h1 with rfl | rfl <;> rfl
      have h2 : (plainV (strip t)).k ≠ 0 := h2
      unfold coM vaM
      dsimp only
      rw [List.takeWhile_cons, if_pos hn, List.map_cons]
      have hp : pvT 12 (strip t :: (r.takeWhile notVar).map strip) = (plainV (strip t), (r.takeWhile notVar).map strip, 0) := by
        unfold pvT
        rw [if_pos (show (plainV (hdK (strip t :: (r.takeWhile notVar).map strip))).k ≠ 0 from h2)]
        rfl
      rw [hp]
      dsimp only
      rw [if_pos rfl, List.length_cons, List.length_map, Nat.add_sub_cancel_left]
      rfl
  · rfl
theorem dflt_Q : dfltM = dfltQ := by funext z s; unfold dfltM dfltQ; rw [co_Q]
theorem inp_Q : inpM = inpQ := by funext z s; unfold inpM inpQ ihM ihQ; rw [ty_Q, dflt_Q]
theorem args_Q : argsM = argsQ := by funext z s; unfold argsM argsQ; rw [inp_Q]
theorem fld_Q : fldM = fldQ := by funext z s; unfold fldM fldQ; rw [args_Q, ty_Q]
theorem fls_Q : flsM = flsQ := by funext z s; unfold flsM flsQ; rw [fld_Q]
theorem obj_Q : objM = objQ := by funext z s; unfold objM objQ; rw [fls_Q]
theorem fac_Q : facM = facQ := by funext z s; unfold facM facQ; rw [fls_Q]
theorem ipt_Q : iptM = iptQ := by funext z s; unfold iptM iptQ; rw [inp_Q]
theorem sdf_Q (z : Nat) (b : Bool) (x : SchT) (s : Ms) : sdfM z b x s = sdfQ z b x s := by unfold sdfM sdfQ; rw [obj_Q, fac_Q, ipt_Q]

end Go.Proofs.YtkahnlgedacppaaGreatDoor
