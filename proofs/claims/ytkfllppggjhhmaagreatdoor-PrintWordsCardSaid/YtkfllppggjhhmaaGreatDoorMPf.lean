/-
  PrintWords: the fields that it lays, their texts. No world: plain functions alone.
-/
import Derived.Test.YtkfllppggjhhmaaGreatDoorMPm2
import Derived.Test.YtkfllppggjhhmaaGreatDoorMLaid
namespace Go.Proofs.YtkfllppggjhhmaaGreatDoor
open Go.RowKit

def wnm (i : Nat) : List UInt8 := [110, 48 + UInt8.ofNat i]
def wArg (i : Nat) : ArgT := (wnm i, .mk 3 ⟨[48 + UInt8.ofNat i].toArray⟩ [] [])
def wArgs (a : Nat) : List ArgT := (List.range a).map wArg
def wDir : DirT := ([100], [([105, 102], .mk 9 ⟨#[118]⟩ [] [])])
def wDirs (b : Nat) : List DirT := List.replicate b wDir
def wSub : SelT := .mk 3 [] [] [84] [] [] [.mk 2 [] [70] [] [] [] []]
def wSels (c : Nat) : List SelT := List.replicate c wSub
def wAl (al : Bool) : Nm := if al then [120] else []
def wSel (a b : Nat) (al : Bool) (c : Nat) : SelT := .mk 1 (wAl al) [102] [] (wArgs a) (wDirs b) (wSels c)
def wDoc (a b : Nat) (al : Bool) (c : Nat) : DocT := ⟨[⟨true, [77], [], [], [wSel a b al c]⟩], []⟩
def tA0 (al : Bool) : List UInt8 := if al then [120, 58, 102] else [102]
def tOpen (x : UInt8) (i : Nat) : List UInt8 := if i = 0 then [x] else [32]
def tArgs : Nat → List UInt8
  | 0 => []
  | i + 1 => tArgs i ++ (tOpen 40 i ++ (wnm i ++ ([58] ++ [48 + UInt8.ofNat i])))
def tDirs : Nat → List UInt8
  | 0 => []
  | i + 1 => tDirs i ++ [64, 100, 40, 105, 102, 58, 36, 118, 41]
def tSels : Nat → List UInt8
  | 0 => []
  | i + 1 => tSels i ++ (tOpen 123 i ++ [46, 46, 46, 111, 110, 32, 84, 123, 46, 46, 46, 70, 125])
def tEnd (x : UInt8) (n : Nat) : List UInt8 := if n = 0 then [] else [x]
def wT (a b : Nat) (al : Bool) (c : Nat) : List UInt8 := ((((tA0 al ++ tArgs a) ++ tEnd 41 a) ++ tDirs b) ++ tSels c) ++ tEnd 125 c
structure WordsOk (a b : Nat) (al : Bool) (c : Nat) : Prop where
  sels : selsT [wSel a b al c] = (123 :: wT a b al c) ++ [125]
  doc : docT (wDoc a b al c) = ([109, 117, 116, 97, 116, 105, 111, 110, 32, 77, 123] ++ wT a b al c) ++ [125]
  par : parseM (docT (wDoc a b al c)) = (wDoc a b al c, 0, 0)
  small : tokSmall (lexP (docT (wDoc a b al c))).1 = true
  short : (setW 100 [wSel a b al c] ⟨[], 9223372036854775807, false⟩).out.length ≤ 140737488355328
  len : (wT a b al c).length ≤ 200
theorem words_00f0 : WordsOk 0 0 false 0 := ⟨by kernel_rfl, by kernel_rfl, by kernel_rfl, by kernel_rfl, of_decide_eq_true (by kernel_rfl), of_decide_eq_true (by kernel_rfl)⟩
theorem words_00f1 : WordsOk 0 0 false 1 := ⟨by kernel_rfl, by kernel_rfl, by kernel_rfl, by kernel_rfl, of_decide_eq_true (by kernel_rfl), of_decide_eq_true (by kernel_rfl)⟩
theorem words_00f2 : WordsOk 0 0 false 2 := ⟨by kernel_rfl, by kernel_rfl, by kernel_rfl, by kernel_rfl, of_decide_eq_true (by kernel_rfl), of_decide_eq_true (by kernel_rfl)⟩
theorem words_00f3 : WordsOk 0 0 false 3 := ⟨by kernel_rfl, by kernel_rfl, by kernel_rfl, by kernel_rfl, of_decide_eq_true (by kernel_rfl), of_decide_eq_true (by kernel_rfl)⟩
theorem words_00t0 : WordsOk 0 0 true 0 := ⟨by kernel_rfl, by kernel_rfl, by kernel_rfl, by kernel_rfl, of_decide_eq_true (by kernel_rfl), of_decide_eq_true (by kernel_rfl)⟩
theorem words_00t1 : WordsOk 0 0 true 1 := ⟨by kernel_rfl, by kernel_rfl, by kernel_rfl, by kernel_rfl, of_decide_eq_true (by kernel_rfl), of_decide_eq_true (by kernel_rfl)⟩
theorem words_00t2 : WordsOk 0 0 true 2 := ⟨by kernel_rfl, by kernel_rfl, by kernel_rfl, by kernel_rfl, of_decide_eq_true (by kernel_rfl), of_decide_eq_true (by kernel_rfl)⟩
theorem words_00t3 : WordsOk 0 0 true 3 := ⟨by kernel_rfl, by kernel_rfl, by kernel_rfl, by kernel_rfl, of_decide_eq_true (by kernel_rfl), of_decide_eq_true (by kernel_rfl)⟩
theorem words_01f0 : WordsOk 0 1 false 0 := ⟨by kernel_rfl, by kernel_rfl, by kernel_rfl, by kernel_rfl, of_decide_eq_true (by kernel_rfl), of_decide_eq_true (by kernel_rfl)⟩
theorem words_01f1 : WordsOk 0 1 false 1 := ⟨by kernel_rfl, by kernel_rfl, by kernel_rfl, by kernel_rfl, of_decide_eq_true (by kernel_rfl), of_decide_eq_true (by kernel_rfl)⟩
theorem words_01f2 : WordsOk 0 1 false 2 := ⟨by kernel_rfl, by kernel_rfl, by kernel_rfl, by kernel_rfl, of_decide_eq_true (by kernel_rfl), of_decide_eq_true (by kernel_rfl)⟩
theorem words_01f3 : WordsOk 0 1 false 3 := ⟨by kernel_rfl, by kernel_rfl, by kernel_rfl, by kernel_rfl, of_decide_eq_true (by kernel_rfl), of_decide_eq_true (by kernel_rfl)⟩
theorem words_01t0 : WordsOk 0 1 true 0 := ⟨by kernel_rfl, by kernel_rfl, by kernel_rfl, by kernel_rfl, of_decide_eq_true (by kernel_rfl), of_decide_eq_true (by kernel_rfl)⟩
theorem words_01t1 : WordsOk 0 1 true 1 := ⟨by kernel_rfl, by kernel_rfl, by kernel_rfl, by kernel_rfl, of_decide_eq_true (by kernel_rfl), of_decide_eq_true (by kernel_rfl)⟩
theorem words_01t2 : WordsOk 0 1 true 2 := ⟨by kernel_rfl, by kernel_rfl, by kernel_rfl, by kernel_rfl, of_decide_eq_true (by kernel_rfl), of_decide_eq_true (by kernel_rfl)⟩
theorem words_01t3 : WordsOk 0 1 true 3 := ⟨by kernel_rfl, by kernel_rfl, by kernel_rfl, by kernel_rfl, of_decide_eq_true (by kernel_rfl), of_decide_eq_true (by kernel_rfl)⟩
theorem words_02f0 : WordsOk 0 2 false 0 := ⟨by kernel_rfl, by kernel_rfl, by kernel_rfl, by kernel_rfl, of_decide_eq_true (by kernel_rfl), of_decide_eq_true (by kernel_rfl)⟩
theorem words_02f1 : WordsOk 0 2 false 1 := ⟨by kernel_rfl, by kernel_rfl, by kernel_rfl, by kernel_rfl, of_decide_eq_true (by kernel_rfl), of_decide_eq_true (by kernel_rfl)⟩
theorem words_02f2 : WordsOk 0 2 false 2 := ⟨by kernel_rfl, by kernel_rfl, by kernel_rfl, by kernel_rfl, of_decide_eq_true (by kernel_rfl), of_decide_eq_true (by kernel_rfl)⟩
theorem words_02f3 : WordsOk 0 2 false 3 := ⟨by kernel_rfl, by kernel_rfl, by kernel_rfl, by kernel_rfl, of_decide_eq_true (by kernel_rfl), of_decide_eq_true (by kernel_rfl)⟩
theorem words_02t0 : WordsOk 0 2 true 0 := ⟨by kernel_rfl, by kernel_rfl, by kernel_rfl, by kernel_rfl, of_decide_eq_true (by kernel_rfl), of_decide_eq_true (by kernel_rfl)⟩
theorem words_02t1 : WordsOk 0 2 true 1 := ⟨by kernel_rfl, by kernel_rfl, by kernel_rfl, by kernel_rfl, of_decide_eq_true (by kernel_rfl), of_decide_eq_true (by kernel_rfl)⟩
theorem words_02t2 : WordsOk 0 2 true 2 := ⟨by kernel_rfl, by kernel_rfl, by kernel_rfl, by kernel_rfl, of_decide_eq_true (by kernel_rfl), of_decide_eq_true (by kernel_rfl)⟩
theorem words_02t3 : WordsOk 0 2 true 3 := ⟨by kernel_rfl, by kernel_rfl, by kernel_rfl, by kernel_rfl, of_decide_eq_true (by kernel_rfl), of_decide_eq_true (by kernel_rfl)⟩
theorem words_03f0 : WordsOk 0 3 false 0 := ⟨by kernel_rfl, by kernel_rfl, by kernel_rfl, by kernel_rfl, of_decide_eq_true (by kernel_rfl), of_decide_eq_true (by kernel_rfl)⟩
theorem words_03f1 : WordsOk 0 3 false 1 := ⟨by kernel_rfl, by kernel_rfl, by kernel_rfl, by kernel_rfl, of_decide_eq_true (by kernel_rfl), of_decide_eq_true (by kernel_rfl)⟩
theorem words_03f2 : WordsOk 0 3 false 2 := ⟨by kernel_rfl, by kernel_rfl, by kernel_rfl, by kernel_rfl, of_decide_eq_true (by kernel_rfl), of_decide_eq_true (by kernel_rfl)⟩
theorem words_03f3 : WordsOk 0 3 false 3 := ⟨by kernel_rfl, by kernel_rfl, by kernel_rfl, by kernel_rfl, of_decide_eq_true (by kernel_rfl), of_decide_eq_true (by kernel_rfl)⟩
theorem words_03t0 : WordsOk 0 3 true 0 := ⟨by kernel_rfl, by kernel_rfl, by kernel_rfl, by kernel_rfl, of_decide_eq_true (by kernel_rfl), of_decide_eq_true (by kernel_rfl)⟩
theorem words_03t1 : WordsOk 0 3 true 1 := ⟨by kernel_rfl, by kernel_rfl, by kernel_rfl, by kernel_rfl, of_decide_eq_true (by kernel_rfl), of_decide_eq_true (by kernel_rfl)⟩
theorem words_03t2 : WordsOk 0 3 true 2 := ⟨by kernel_rfl, by kernel_rfl, by kernel_rfl, by kernel_rfl, of_decide_eq_true (by kernel_rfl), of_decide_eq_true (by kernel_rfl)⟩
theorem words_03t3 : WordsOk 0 3 true 3 := ⟨by kernel_rfl, by kernel_rfl, by kernel_rfl, by kernel_rfl, of_decide_eq_true (by kernel_rfl), of_decide_eq_true (by kernel_rfl)⟩
theorem words_10f0 : WordsOk 1 0 false 0 := ⟨by kernel_rfl, by kernel_rfl, by kernel_rfl, by kernel_rfl, of_decide_eq_true (by kernel_rfl), of_decide_eq_true (by kernel_rfl)⟩
theorem words_10f1 : WordsOk 1 0 false 1 := ⟨by kernel_rfl, by kernel_rfl, by kernel_rfl, by kernel_rfl, of_decide_eq_true (by kernel_rfl), of_decide_eq_true (by kernel_rfl)⟩
theorem words_10f2 : WordsOk 1 0 false 2 := ⟨by kernel_rfl, by kernel_rfl, by kernel_rfl, by kernel_rfl, of_decide_eq_true (by kernel_rfl), of_decide_eq_true (by kernel_rfl)⟩
theorem words_10f3 : WordsOk 1 0 false 3 := ⟨by kernel_rfl, by kernel_rfl, by kernel_rfl, by kernel_rfl, of_decide_eq_true (by kernel_rfl), of_decide_eq_true (by kernel_rfl)⟩
theorem words_10t0 : WordsOk 1 0 true 0 := ⟨by kernel_rfl, by kernel_rfl, by kernel_rfl, by kernel_rfl, of_decide_eq_true (by kernel_rfl), of_decide_eq_true (by kernel_rfl)⟩
theorem words_10t1 : WordsOk 1 0 true 1 := ⟨by kernel_rfl, by kernel_rfl, by kernel_rfl, by kernel_rfl, of_decide_eq_true (by kernel_rfl), of_decide_eq_true (by kernel_rfl)⟩
theorem words_10t2 : WordsOk 1 0 true 2 := ⟨by kernel_rfl, by kernel_rfl, by kernel_rfl, by kernel_rfl, of_decide_eq_true (by kernel_rfl), of_decide_eq_true (by kernel_rfl)⟩
theorem words_10t3 : WordsOk 1 0 true 3 := ⟨by kernel_rfl, by kernel_rfl, by kernel_rfl, by kernel_rfl, of_decide_eq_true (by kernel_rfl), of_decide_eq_true (by kernel_rfl)⟩
theorem words_11f0 : WordsOk 1 1 false 0 := ⟨by kernel_rfl, by kernel_rfl, by kernel_rfl, by kernel_rfl, of_decide_eq_true (by kernel_rfl), of_decide_eq_true (by kernel_rfl)⟩
theorem words_11f1 : WordsOk 1 1 false 1 := ⟨by kernel_rfl, by kernel_rfl, by kernel_rfl, by kernel_rfl, of_decide_eq_true (by kernel_rfl), of_decide_eq_true (by kernel_rfl)⟩
theorem words_11f2 : WordsOk 1 1 false 2 := ⟨by kernel_rfl, by kernel_rfl, by kernel_rfl, by kernel_rfl, of_decide_eq_true (by kernel_rfl), of_decide_eq_true (by kernel_rfl)⟩
theorem words_11f3 : WordsOk 1 1 false 3 := ⟨by kernel_rfl, by kernel_rfl, by kernel_rfl, by kernel_rfl, of_decide_eq_true (by kernel_rfl), of_decide_eq_true (by kernel_rfl)⟩
theorem words_11t0 : WordsOk 1 1 true 0 := ⟨by kernel_rfl, by kernel_rfl, by kernel_rfl, by kernel_rfl, of_decide_eq_true (by kernel_rfl), of_decide_eq_true (by kernel_rfl)⟩
theorem words_11t1 : WordsOk 1 1 true 1 := ⟨by kernel_rfl, by kernel_rfl, by kernel_rfl, by kernel_rfl, of_decide_eq_true (by kernel_rfl), of_decide_eq_true (by kernel_rfl)⟩
theorem words_11t2 : WordsOk 1 1 true 2 := ⟨by kernel_rfl, by kernel_rfl, by kernel_rfl, by kernel_rfl, of_decide_eq_true (by kernel_rfl), of_decide_eq_true (by kernel_rfl)⟩
theorem words_11t3 : WordsOk 1 1 true 3 := ⟨by kernel_rfl, by kernel_rfl, by kernel_rfl, by kernel_rfl, of_decide_eq_true (by kernel_rfl), of_decide_eq_true (by kernel_rfl)⟩
theorem words_12f0 : WordsOk 1 2 false 0 := ⟨by kernel_rfl, by kernel_rfl, by kernel_rfl, by kernel_rfl, of_decide_eq_true (by kernel_rfl), of_decide_eq_true (by kernel_rfl)⟩
theorem words_12f1 : WordsOk 1 2 false 1 := ⟨by kernel_rfl, by kernel_rfl, by kernel_rfl, by kernel_rfl, of_decide_eq_true (by kernel_rfl), of_decide_eq_true (by kernel_rfl)⟩
theorem words_12f2 : WordsOk 1 2 false 2 := ⟨by kernel_rfl, by kernel_rfl, by kernel_rfl, by kernel_rfl, of_decide_eq_true (by kernel_rfl), of_decide_eq_true (by kernel_rfl)⟩
theorem words_12f3 : WordsOk 1 2 false 3 := ⟨by kernel_rfl, by kernel_rfl, by kernel_rfl, by kernel_rfl, of_decide_eq_true (by kernel_rfl), of_decide_eq_true (by kernel_rfl)⟩
theorem words_12t0 : WordsOk 1 2 true 0 := ⟨by kernel_rfl, by kernel_rfl, by kernel_rfl, by kernel_rfl, of_decide_eq_true (by kernel_rfl), of_decide_eq_true (by kernel_rfl)⟩
theorem words_12t1 : WordsOk 1 2 true 1 := ⟨by kernel_rfl, by kernel_rfl, by kernel_rfl, by kernel_rfl, of_decide_eq_true (by kernel_rfl), of_decide_eq_true (by kernel_rfl)⟩
theorem words_12t2 : WordsOk 1 2 true 2 := ⟨by kernel_rfl, by kernel_rfl, by kernel_rfl, by kernel_rfl, of_decide_eq_true (by kernel_rfl), of_decide_eq_true (by kernel_rfl)⟩
theorem words_12t3 : WordsOk 1 2 true 3 := ⟨by kernel_rfl, by kernel_rfl, by kernel_rfl, by kernel_rfl, of_decide_eq_true (by kernel_rfl), of_decide_eq_true (by kernel_rfl)⟩
theorem words_13f0 : WordsOk 1 3 false 0 := ⟨by kernel_rfl, by kernel_rfl, by kernel_rfl, by kernel_rfl, of_decide_eq_true (by kernel_rfl), of_decide_eq_true (by kernel_rfl)⟩
theorem words_13f1 : WordsOk 1 3 false 1 := ⟨by kernel_rfl, by kernel_rfl, by kernel_rfl, by kernel_rfl, of_decide_eq_true (by kernel_rfl), of_decide_eq_true (by kernel_rfl)⟩
theorem words_13f2 : WordsOk 1 3 false 2 := ⟨by kernel_rfl, by kernel_rfl, by kernel_rfl, by kernel_rfl, of_decide_eq_true (by kernel_rfl), of_decide_eq_true (by kernel_rfl)⟩
theorem words_13f3 : WordsOk 1 3 false 3 := ⟨by kernel_rfl, by kernel_rfl, by kernel_rfl, by kernel_rfl, of_decide_eq_true (by kernel_rfl), of_decide_eq_true (by kernel_rfl)⟩
theorem words_13t0 : WordsOk 1 3 true 0 := ⟨by kernel_rfl, by kernel_rfl, by kernel_rfl, by kernel_rfl, of_decide_eq_true (by kernel_rfl), of_decide_eq_true (by kernel_rfl)⟩
theorem words_13t1 : WordsOk 1 3 true 1 := ⟨by kernel_rfl, by kernel_rfl, by kernel_rfl, by kernel_rfl, of_decide_eq_true (by kernel_rfl), of_decide_eq_true (by kernel_rfl)⟩
theorem words_13t2 : WordsOk 1 3 true 2 := ⟨by kernel_rfl, by kernel_rfl, by kernel_rfl, by kernel_rfl, of_decide_eq_true (by kernel_rfl), of_decide_eq_true (by kernel_rfl)⟩
theorem words_13t3 : WordsOk 1 3 true 3 := ⟨by kernel_rfl, by kernel_rfl, by kernel_rfl, by kernel_rfl, of_decide_eq_true (by kernel_rfl), of_decide_eq_true (by kernel_rfl)⟩
theorem words_20f0 : WordsOk 2 0 false 0 := ⟨by kernel_rfl, by kernel_rfl, by kernel_rfl, by kernel_rfl, of_decide_eq_true (by kernel_rfl), of_decide_eq_true (by kernel_rfl)⟩
theorem words_20f1 : WordsOk 2 0 false 1 := ⟨by kernel_rfl, by kernel_rfl, by kernel_rfl, by kernel_rfl, of_decide_eq_true (by kernel_rfl), of_decide_eq_true (by kernel_rfl)⟩
theorem words_20f2 : WordsOk 2 0 false 2 := ⟨by kernel_rfl, by kernel_rfl, by kernel_rfl, by kernel_rfl, of_decide_eq_true (by kernel_rfl), of_decide_eq_true (by kernel_rfl)⟩
theorem words_20f3 : WordsOk 2 0 false 3 := ⟨by kernel_rfl, by kernel_rfl, by kernel_rfl, by kernel_rfl, of_decide_eq_true (by kernel_rfl), of_decide_eq_true (by kernel_rfl)⟩
theorem words_20t0 : WordsOk 2 0 true 0 := ⟨by kernel_rfl, by kernel_rfl, by kernel_rfl, by kernel_rfl, of_decide_eq_true (by kernel_rfl), of_decide_eq_true (by kernel_rfl)⟩
theorem words_20t1 : WordsOk 2 0 true 1 := ⟨by kernel_rfl, by kernel_rfl, by kernel_rfl, by kernel_rfl, of_decide_eq_true (by kernel_rfl), of_decide_eq_true (by kernel_rfl)⟩
theorem words_20t2 : WordsOk 2 0 true 2 := ⟨by kernel_rfl, by kernel_rfl, by kernel_rfl, by kernel_rfl, of_decide_eq_true (by kernel_rfl), of_decide_eq_true (by kernel_rfl)⟩
theorem words_20t3 : WordsOk 2 0 true 3 := ⟨by kernel_rfl, by kernel_rfl, by kernel_rfl, by kernel_rfl, of_decide_eq_true (by kernel_rfl), of_decide_eq_true (by kernel_rfl)⟩
theorem words_21f0 : WordsOk 2 1 false 0 := ⟨by kernel_rfl, by kernel_rfl, by kernel_rfl, by kernel_rfl, of_decide_eq_true (by kernel_rfl), of_decide_eq_true (by kernel_rfl)⟩
theorem words_21f1 : WordsOk 2 1 false 1 := ⟨by kernel_rfl, by kernel_rfl, by kernel_rfl, by kernel_rfl, of_decide_eq_true (by kernel_rfl), of_decide_eq_true (by kernel_rfl)⟩
theorem words_21f2 : WordsOk 2 1 false 2 := ⟨by kernel_rfl, by kernel_rfl, by kernel_rfl, by kernel_rfl, of_decide_eq_true (by kernel_rfl), of_decide_eq_true (by kernel_rfl)⟩
theorem words_21f3 : WordsOk 2 1 false 3 := ⟨by kernel_rfl, by kernel_rfl, by kernel_rfl, by kernel_rfl, of_decide_eq_true (by kernel_rfl), of_decide_eq_true (by kernel_rfl)⟩
theorem words_21t0 : WordsOk 2 1 true 0 := ⟨by kernel_rfl, by kernel_rfl, by kernel_rfl, by kernel_rfl, of_decide_eq_true (by kernel_rfl), of_decide_eq_true (by kernel_rfl)⟩
theorem words_21t1 : WordsOk 2 1 true 1 := ⟨by kernel_rfl, by kernel_rfl, by kernel_rfl, by kernel_rfl, of_decide_eq_true (by kernel_rfl), of_decide_eq_true (by kernel_rfl)⟩
theorem words_21t2 : WordsOk 2 1 true 2 := ⟨by kernel_rfl, by kernel_rfl, by kernel_rfl, by kernel_rfl, of_decide_eq_true (by kernel_rfl), of_decide_eq_true (by kernel_rfl)⟩
theorem words_21t3 : WordsOk 2 1 true 3 := ⟨by kernel_rfl, by kernel_rfl, by kernel_rfl, by kernel_rfl, of_decide_eq_true (by kernel_rfl), of_decide_eq_true (by kernel_rfl)⟩
theorem words_22f0 : WordsOk 2 2 false 0 := ⟨by kernel_rfl, by kernel_rfl, by kernel_rfl, by kernel_rfl, of_decide_eq_true (by kernel_rfl), of_decide_eq_true (by kernel_rfl)⟩
theorem words_22f1 : WordsOk 2 2 false 1 := ⟨by kernel_rfl, by kernel_rfl, by kernel_rfl, by kernel_rfl, of_decide_eq_true (by kernel_rfl), of_decide_eq_true (by kernel_rfl)⟩
theorem words_22f2 : WordsOk 2 2 false 2 := ⟨by kernel_rfl, by kernel_rfl, by kernel_rfl, by kernel_rfl, of_decide_eq_true (by kernel_rfl), of_decide_eq_true (by kernel_rfl)⟩
theorem words_22f3 : WordsOk 2 2 false 3 := ⟨by kernel_rfl, by kernel_rfl, by kernel_rfl, by kernel_rfl, of_decide_eq_true (by kernel_rfl), of_decide_eq_true (by kernel_rfl)⟩
theorem words_22t0 : WordsOk 2 2 true 0 := ⟨by kernel_rfl, by kernel_rfl, by kernel_rfl, by kernel_rfl, of_decide_eq_true (by kernel_rfl), of_decide_eq_true (by kernel_rfl)⟩
theorem words_22t1 : WordsOk 2 2 true 1 := ⟨by kernel_rfl, by kernel_rfl, by kernel_rfl, by kernel_rfl, of_decide_eq_true (by kernel_rfl), of_decide_eq_true (by kernel_rfl)⟩
theorem words_22t2 : WordsOk 2 2 true 2 := ⟨by kernel_rfl, by kernel_rfl, by kernel_rfl, by kernel_rfl, of_decide_eq_true (by kernel_rfl), of_decide_eq_true (by kernel_rfl)⟩
theorem words_22t3 : WordsOk 2 2 true 3 := ⟨by kernel_rfl, by kernel_rfl, by kernel_rfl, by kernel_rfl, of_decide_eq_true (by kernel_rfl), of_decide_eq_true (by kernel_rfl)⟩
theorem words_23f0 : WordsOk 2 3 false 0 := ⟨by kernel_rfl, by kernel_rfl, by kernel_rfl, by kernel_rfl, of_decide_eq_true (by kernel_rfl), of_decide_eq_true (by kernel_rfl)⟩
theorem words_23f1 : WordsOk 2 3 false 1 := ⟨by kernel_rfl, by kernel_rfl, by kernel_rfl, by kernel_rfl, of_decide_eq_true (by kernel_rfl), of_decide_eq_true (by kernel_rfl)⟩
theorem words_23f2 : WordsOk 2 3 false 2 := ⟨by kernel_rfl, by kernel_rfl, by kernel_rfl, by kernel_rfl, of_decide_eq_true (by kernel_rfl), of_decide_eq_true (by kernel_rfl)⟩
theorem words_23f3 : WordsOk 2 3 false 3 := ⟨by kernel_rfl, by kernel_rfl, by kernel_rfl, by kernel_rfl, of_decide_eq_true (by kernel_rfl), of_decide_eq_true (by kernel_rfl)⟩
theorem words_23t0 : WordsOk 2 3 true 0 := ⟨by kernel_rfl, by kernel_rfl, by kernel_rfl, by kernel_rfl, of_decide_eq_true (by kernel_rfl), of_decide_eq_true (by kernel_rfl)⟩
theorem words_23t1 : WordsOk 2 3 true 1 := ⟨by kernel_rfl, by kernel_rfl, by kernel_rfl, by kernel_rfl, of_decide_eq_true (by kernel_rfl), of_decide_eq_true (by kernel_rfl)⟩
theorem words_23t2 : WordsOk 2 3 true 2 := ⟨by kernel_rfl, by kernel_rfl, by kernel_rfl, by kernel_rfl, of_decide_eq_true (by kernel_rfl), of_decide_eq_true (by kernel_rfl)⟩
theorem words_23t3 : WordsOk 2 3 true 3 := ⟨by kernel_rfl, by kernel_rfl, by kernel_rfl, by kernel_rfl, of_decide_eq_true (by kernel_rfl), of_decide_eq_true (by kernel_rfl)⟩
theorem words_30f0 : WordsOk 3 0 false 0 := ⟨by kernel_rfl, by kernel_rfl, by kernel_rfl, by kernel_rfl, of_decide_eq_true (by kernel_rfl), of_decide_eq_true (by kernel_rfl)⟩
theorem words_30f1 : WordsOk 3 0 false 1 := ⟨by kernel_rfl, by kernel_rfl, by kernel_rfl, by kernel_rfl, of_decide_eq_true (by kernel_rfl), of_decide_eq_true (by kernel_rfl)⟩
theorem words_30f2 : WordsOk 3 0 false 2 := ⟨by kernel_rfl, by kernel_rfl, by kernel_rfl, by kernel_rfl, of_decide_eq_true (by kernel_rfl), of_decide_eq_true (by kernel_rfl)⟩
theorem words_30f3 : WordsOk 3 0 false 3 := ⟨by kernel_rfl, by kernel_rfl, by kernel_rfl, by kernel_rfl, of_decide_eq_true (by kernel_rfl), of_decide_eq_true (by kernel_rfl)⟩
theorem words_30t0 : WordsOk 3 0 true 0 := ⟨by kernel_rfl, by kernel_rfl, by kernel_rfl, by kernel_rfl, of_decide_eq_true (by kernel_rfl), of_decide_eq_true (by kernel_rfl)⟩
theorem words_30t1 : WordsOk 3 0 true 1 := ⟨by kernel_rfl, by kernel_rfl, by kernel_rfl, by kernel_rfl, of_decide_eq_true (by kernel_rfl), of_decide_eq_true (by kernel_rfl)⟩
theorem words_30t2 : WordsOk 3 0 true 2 := ⟨by kernel_rfl, by kernel_rfl, by kernel_rfl, by kernel_rfl, of_decide_eq_true (by kernel_rfl), of_decide_eq_true (by kernel_rfl)⟩
theorem words_30t3 : WordsOk 3 0 true 3 := ⟨by kernel_rfl, by kernel_rfl, by kernel_rfl, by kernel_rfl, of_decide_eq_true (by kernel_rfl), of_decide_eq_true (by kernel_rfl)⟩
theorem words_31f0 : WordsOk 3 1 false 0 := ⟨by kernel_rfl, by kernel_rfl, by kernel_rfl, by kernel_rfl, of_decide_eq_true (by kernel_rfl), of_decide_eq_true (by kernel_rfl)⟩
theorem words_31f1 : WordsOk 3 1 false 1 := ⟨by kernel_rfl, by kernel_rfl, by kernel_rfl, by kernel_rfl, of_decide_eq_true (by kernel_rfl), of_decide_eq_true (by kernel_rfl)⟩
theorem words_31f2 : WordsOk 3 1 false 2 := ⟨by kernel_rfl, by kernel_rfl, by kernel_rfl, by kernel_rfl, of_decide_eq_true (by kernel_rfl), of_decide_eq_true (by kernel_rfl)⟩
theorem words_31f3 : WordsOk 3 1 false 3 := ⟨by kernel_rfl, by kernel_rfl, by kernel_rfl, by kernel_rfl, of_decide_eq_true (by kernel_rfl), of_decide_eq_true (by kernel_rfl)⟩
theorem words_31t0 : WordsOk 3 1 true 0 := ⟨by kernel_rfl, by kernel_rfl, by kernel_rfl, by kernel_rfl, of_decide_eq_true (by kernel_rfl), of_decide_eq_true (by kernel_rfl)⟩
theorem words_31t1 : WordsOk 3 1 true 1 := ⟨by kernel_rfl, by kernel_rfl, by kernel_rfl, by kernel_rfl, of_decide_eq_true (by kernel_rfl), of_decide_eq_true (by kernel_rfl)⟩
theorem words_31t2 : WordsOk 3 1 true 2 := ⟨by kernel_rfl, by kernel_rfl, by kernel_rfl, by kernel_rfl, of_decide_eq_true (by kernel_rfl), of_decide_eq_true (by kernel_rfl)⟩
theorem words_31t3 : WordsOk 3 1 true 3 := ⟨by kernel_rfl, by kernel_rfl, by kernel_rfl, by kernel_rfl, of_decide_eq_true (by kernel_rfl), of_decide_eq_true (by kernel_rfl)⟩
theorem words_32f0 : WordsOk 3 2 false 0 := ⟨by kernel_rfl, by kernel_rfl, by kernel_rfl, by kernel_rfl, of_decide_eq_true (by kernel_rfl), of_decide_eq_true (by kernel_rfl)⟩
theorem words_32f1 : WordsOk 3 2 false 1 := ⟨by kernel_rfl, by kernel_rfl, by kernel_rfl, by kernel_rfl, of_decide_eq_true (by kernel_rfl), of_decide_eq_true (by kernel_rfl)⟩
theorem words_32f2 : WordsOk 3 2 false 2 := ⟨by kernel_rfl, by kernel_rfl, by kernel_rfl, by kernel_rfl, of_decide_eq_true (by kernel_rfl), of_decide_eq_true (by kernel_rfl)⟩
theorem words_32f3 : WordsOk 3 2 false 3 := ⟨by kernel_rfl, by kernel_rfl, by kernel_rfl, by kernel_rfl, of_decide_eq_true (by kernel_rfl), of_decide_eq_true (by kernel_rfl)⟩
theorem words_32t0 : WordsOk 3 2 true 0 := ⟨by kernel_rfl, by kernel_rfl, by kernel_rfl, by kernel_rfl, of_decide_eq_true (by kernel_rfl), of_decide_eq_true (by kernel_rfl)⟩
theorem words_32t1 : WordsOk 3 2 true 1 := ⟨by kernel_rfl, by kernel_rfl, by kernel_rfl, by kernel_rfl, of_decide_eq_true (by kernel_rfl), of_decide_eq_true (by kernel_rfl)⟩
theorem words_32t2 : WordsOk 3 2 true 2 := ⟨by kernel_rfl, by kernel_rfl, by kernel_rfl, by kernel_rfl, of_decide_eq_true (by kernel_rfl), of_decide_eq_true (by kernel_rfl)⟩
theorem words_32t3 : WordsOk 3 2 true 3 := ⟨by kernel_rfl, by kernel_rfl, by kernel_rfl, by kernel_rfl, of_decide_eq_true (by kernel_rfl), of_decide_eq_true (by kernel_rfl)⟩
theorem words_33f0 : WordsOk 3 3 false 0 := ⟨by kernel_rfl, by kernel_rfl, by kernel_rfl, by kernel_rfl, of_decide_eq_true (by kernel_rfl), of_decide_eq_true (by kernel_rfl)⟩
theorem words_33f1 : WordsOk 3 3 false 1 := ⟨by kernel_rfl, by kernel_rfl, by kernel_rfl, by kernel_rfl, of_decide_eq_true (by kernel_rfl), of_decide_eq_true (by kernel_rfl)⟩
theorem words_33f2 : WordsOk 3 3 false 2 := ⟨by kernel_rfl, by kernel_rfl, by kernel_rfl, by kernel_rfl, of_decide_eq_true (by kernel_rfl), of_decide_eq_true (by kernel_rfl)⟩
theorem words_33f3 : WordsOk 3 3 false 3 := ⟨by kernel_rfl, by kernel_rfl, by kernel_rfl, by kernel_rfl, of_decide_eq_true (by kernel_rfl), of_decide_eq_true (by kernel_rfl)⟩
theorem words_33t0 : WordsOk 3 3 true 0 := ⟨by kernel_rfl, by kernel_rfl, by kernel_rfl, by kernel_rfl, of_decide_eq_true (by kernel_rfl), of_decide_eq_true (by kernel_rfl)⟩
theorem words_33t1 : WordsOk 3 3 true 1 := ⟨by kernel_rfl, by kernel_rfl, by kernel_rfl, by kernel_rfl, of_decide_eq_true (by kernel_rfl), of_decide_eq_true (by kernel_rfl)⟩
theorem words_33t2 : WordsOk 3 3 true 2 := ⟨by kernel_rfl, by kernel_rfl, by kernel_rfl, by kernel_rfl, of_decide_eq_true (by kernel_rfl), of_decide_eq_true (by kernel_rfl)⟩
theorem words_33t3 : WordsOk 3 3 true 3 := ⟨by kernel_rfl, by kernel_rfl, by kernel_rfl, by kernel_rfl, of_decide_eq_true (by kernel_rfl), of_decide_eq_true (by kernel_rfl)⟩
theorem words_40f0 : WordsOk 4 0 false 0 := ⟨by kernel_rfl, by kernel_rfl, by kernel_rfl, by kernel_rfl, of_decide_eq_true (by kernel_rfl), of_decide_eq_true (by kernel_rfl)⟩
theorem words_40f1 : WordsOk 4 0 false 1 := ⟨by kernel_rfl, by kernel_rfl, by kernel_rfl, by kernel_rfl, of_decide_eq_true (by kernel_rfl), of_decide_eq_true (by kernel_rfl)⟩
theorem words_40f2 : WordsOk 4 0 false 2 := ⟨by kernel_rfl, by kernel_rfl, by kernel_rfl, by kernel_rfl, of_decide_eq_true (by kernel_rfl), of_decide_eq_true (by kernel_rfl)⟩
theorem words_40f3 : WordsOk 4 0 false 3 := ⟨by kernel_rfl, by kernel_rfl, by kernel_rfl, by kernel_rfl, of_decide_eq_true (by kernel_rfl), of_decide_eq_true (by kernel_rfl)⟩
theorem words_40t0 : WordsOk 4 0 true 0 := ⟨by kernel_rfl, by kernel_rfl, by kernel_rfl, by kernel_rfl, of_decide_eq_true (by kernel_rfl), of_decide_eq_true (by kernel_rfl)⟩
theorem words_40t1 : WordsOk 4 0 true 1 := ⟨by kernel_rfl, by kernel_rfl, by kernel_rfl, by kernel_rfl, of_decide_eq_true (by kernel_rfl), of_decide_eq_true (by kernel_rfl)⟩
theorem words_40t2 : WordsOk 4 0 true 2 := ⟨by kernel_rfl, by kernel_rfl, by kernel_rfl, by kernel_rfl, of_decide_eq_true (by kernel_rfl), of_decide_eq_true (by kernel_rfl)⟩
theorem words_40t3 : WordsOk 4 0 true 3 := ⟨by kernel_rfl, by kernel_rfl, by kernel_rfl, by kernel_rfl, of_decide_eq_true (by kernel_rfl), of_decide_eq_true (by kernel_rfl)⟩
theorem words_41f0 : WordsOk 4 1 false 0 := ⟨by kernel_rfl, by kernel_rfl, by kernel_rfl, by kernel_rfl, of_decide_eq_true (by kernel_rfl), of_decide_eq_true (by kernel_rfl)⟩
theorem words_41f1 : WordsOk 4 1 false 1 := ⟨by kernel_rfl, by kernel_rfl, by kernel_rfl, by kernel_rfl, of_decide_eq_true (by kernel_rfl), of_decide_eq_true (by kernel_rfl)⟩
theorem words_41f2 : WordsOk 4 1 false 2 := ⟨by kernel_rfl, by kernel_rfl, by kernel_rfl, by kernel_rfl, of_decide_eq_true (by kernel_rfl), of_decide_eq_true (by kernel_rfl)⟩
theorem words_41f3 : WordsOk 4 1 false 3 := ⟨by kernel_rfl, by kernel_rfl, by kernel_rfl, by kernel_rfl, of_decide_eq_true (by kernel_rfl), of_decide_eq_true (by kernel_rfl)⟩
theorem words_41t0 : WordsOk 4 1 true 0 := ⟨by kernel_rfl, by kernel_rfl, by kernel_rfl, by kernel_rfl, of_decide_eq_true (by kernel_rfl), of_decide_eq_true (by kernel_rfl)⟩
theorem words_41t1 : WordsOk 4 1 true 1 := ⟨by kernel_rfl, by kernel_rfl, by kernel_rfl, by kernel_rfl, of_decide_eq_true (by kernel_rfl), of_decide_eq_true (by kernel_rfl)⟩
theorem words_41t2 : WordsOk 4 1 true 2 := ⟨by kernel_rfl, by kernel_rfl, by kernel_rfl, by kernel_rfl, of_decide_eq_true (by kernel_rfl), of_decide_eq_true (by kernel_rfl)⟩
theorem words_41t3 : WordsOk 4 1 true 3 := ⟨by kernel_rfl, by kernel_rfl, by kernel_rfl, by kernel_rfl, of_decide_eq_true (by kernel_rfl), of_decide_eq_true (by kernel_rfl)⟩
theorem words_42f0 : WordsOk 4 2 false 0 := ⟨by kernel_rfl, by kernel_rfl, by kernel_rfl, by kernel_rfl, of_decide_eq_true (by kernel_rfl), of_decide_eq_true (by kernel_rfl)⟩
theorem words_42f1 : WordsOk 4 2 false 1 := ⟨by kernel_rfl, by kernel_rfl, by kernel_rfl, by kernel_rfl, of_decide_eq_true (by kernel_rfl), of_decide_eq_true (by kernel_rfl)⟩
theorem words_42f2 : WordsOk 4 2 false 2 := ⟨by kernel_rfl, by kernel_rfl, by kernel_rfl, by kernel_rfl, of_decide_eq_true (by kernel_rfl), of_decide_eq_true (by kernel_rfl)⟩
theorem words_42f3 : WordsOk 4 2 false 3 := ⟨by kernel_rfl, by kernel_rfl, by kernel_rfl, by kernel_rfl, of_decide_eq_true (by kernel_rfl), of_decide_eq_true (by kernel_rfl)⟩
theorem words_42t0 : WordsOk 4 2 true 0 := ⟨by kernel_rfl, by kernel_rfl, by kernel_rfl, by kernel_rfl, of_decide_eq_true (by kernel_rfl), of_decide_eq_true (by kernel_rfl)⟩
theorem words_42t1 : WordsOk 4 2 true 1 := ⟨by kernel_rfl, by kernel_rfl, by kernel_rfl, by kernel_rfl, of_decide_eq_true (by kernel_rfl), of_decide_eq_true (by kernel_rfl)⟩
theorem words_42t2 : WordsOk 4 2 true 2 := ⟨by kernel_rfl, by kernel_rfl, by kernel_rfl, by kernel_rfl, of_decide_eq_true (by kernel_rfl), of_decide_eq_true (by kernel_rfl)⟩
theorem words_42t3 : WordsOk 4 2 true 3 := ⟨by kernel_rfl, by kernel_rfl, by kernel_rfl, by kernel_rfl, of_decide_eq_true (by kernel_rfl), of_decide_eq_true (by kernel_rfl)⟩
theorem words_43f0 : WordsOk 4 3 false 0 := ⟨by kernel_rfl, by kernel_rfl, by kernel_rfl, by kernel_rfl, of_decide_eq_true (by kernel_rfl), of_decide_eq_true (by kernel_rfl)⟩
theorem words_43f1 : WordsOk 4 3 false 1 := ⟨by kernel_rfl, by kernel_rfl, by kernel_rfl, by kernel_rfl, of_decide_eq_true (by kernel_rfl), of_decide_eq_true (by kernel_rfl)⟩
theorem words_43f2 : WordsOk 4 3 false 2 := ⟨by kernel_rfl, by kernel_rfl, by kernel_rfl, by kernel_rfl, of_decide_eq_true (by kernel_rfl), of_decide_eq_true (by kernel_rfl)⟩
theorem words_43f3 : WordsOk 4 3 false 3 := ⟨by kernel_rfl, by kernel_rfl, by kernel_rfl, by kernel_rfl, of_decide_eq_true (by kernel_rfl), of_decide_eq_true (by kernel_rfl)⟩
theorem words_43t0 : WordsOk 4 3 true 0 := ⟨by kernel_rfl, by kernel_rfl, by kernel_rfl, by kernel_rfl, of_decide_eq_true (by kernel_rfl), of_decide_eq_true (by kernel_rfl)⟩
theorem words_43t1 : WordsOk 4 3 true 1 := ⟨by kernel_rfl, by kernel_rfl, by kernel_rfl, by kernel_rfl, of_decide_eq_true (by kernel_rfl), of_decide_eq_true (by kernel_rfl)⟩
theorem words_43t2 : WordsOk 4 3 true 2 := ⟨by kernel_rfl, by kernel_rfl, by kernel_rfl, by kernel_rfl, of_decide_eq_true (by kernel_rfl), of_decide_eq_true (by kernel_rfl)⟩
theorem words_43t3 : WordsOk 4 3 true 3 := ⟨by kernel_rfl, by kernel_rfl, by kernel_rfl, by kernel_rfl, of_decide_eq_true (by kernel_rfl), of_decide_eq_true (by kernel_rfl)⟩
theorem words_a0f (b c : Nat) (hb : b < 4) (hc : c < 4) : WordsOk 0 b false c := by
  obtain rfl | rfl | rfl | rfl : b = 0 ∨ b = 1 ∨ b = 2 ∨ b = 3 := by omega
  · obtain rfl | rfl | rfl | rfl : c = 0 ∨ c = 1 ∨ c = 2 ∨ c = 3 := by omega
    · exact words_00f0
    · exact words_00f1
    · exact words_00f2
    · exact words_00f3
  · obtain rfl | rfl | rfl | rfl : c = 0 ∨ c = 1 ∨ c = 2 ∨ c = 3 := by omega
    · exact words_01f0
    · exact words_01f1
    · exact words_01f2
    · exact words_01f3
  · obtain rfl | rfl | rfl | rfl : c = 0 ∨ c = 1 ∨ c = 2 ∨ c = 3 := by omega
    · exact words_02f0
    · exact words_02f1
    · exact words_02f2
    · exact words_02f3
  · obtain rfl | rfl | rfl | rfl : c = 0 ∨ c = 1 ∨ c = 2 ∨ c = 3 := by omega
    · exact words_03f0
    · exact words_03f1
    · exact words_03f2
    · exact words_03f3
theorem words_a0t (b c : Nat) (hb : b < 4) (hc : c < 4) : WordsOk 0 b true c := by
  obtain rfl | rfl | rfl | rfl : b = 0 ∨ b = 1 ∨ b = 2 ∨ b = 3 := by omega
  · obtain rfl | rfl | rfl | rfl : c = 0 ∨ c = 1 ∨ c = 2 ∨ c = 3 := by omega
    · exact words_00t0
    · exact words_00t1
    · exact words_00t2
    · exact words_00t3
  · obtain rfl | rfl | rfl | rfl : c = 0 ∨ c = 1 ∨ c = 2 ∨ c = 3 := by omega
    · exact words_01t0
    · exact words_01t1
    · exact words_01t2
    · exact words_01t3
  · obtain rfl | rfl | rfl | rfl : c = 0 ∨ c = 1 ∨ c = 2 ∨ c = 3 := by omega
    · exact words_02t0
    · exact words_02t1
    · exact words_02t2
    · exact words_02t3
  · obtain rfl | rfl | rfl | rfl : c = 0 ∨ c = 1 ∨ c = 2 ∨ c = 3 := by omega
    · exact words_03t0
    · exact words_03t1
    · exact words_03t2
    · exact words_03t3
theorem words_a1f (b c : Nat) (hb : b < 4) (hc : c < 4) : WordsOk 1 b false c := by
  obtain rfl | rfl | rfl | rfl : b = 0 ∨ b = 1 ∨ b = 2 ∨ b = 3 := by omega
  · obtain rfl | rfl | rfl | rfl : c = 0 ∨ c = 1 ∨ c = 2 ∨ c = 3 := by omega
    · exact words_10f0
    · exact words_10f1
    · exact words_10f2
    · exact words_10f3
  · obtain rfl | rfl | rfl | rfl : c = 0 ∨ c = 1 ∨ c = 2 ∨ c = 3 := by omega
    · exact words_11f0
    · exact words_11f1
    · exact words_11f2
    · exact words_11f3
  · obtain rfl | rfl | rfl | rfl : c = 0 ∨ c = 1 ∨ c = 2 ∨ c = 3 := by omega
    · exact words_12f0
    · exact words_12f1
    · exact words_12f2
    · exact words_12f3
  · obtain rfl | rfl | rfl | rfl : c = 0 ∨ c = 1 ∨ c = 2 ∨ c = 3 := by omega
    · exact words_13f0
    · exact words_13f1
    · exact words_13f2
    · exact words_13f3
theorem words_a1t (b c : Nat) (hb : b < 4) (hc : c < 4) : WordsOk 1 b true c := by
  obtain rfl | rfl | rfl | rfl : b = 0 ∨ b = 1 ∨ b = 2 ∨ b = 3 := by omega
  · obtain rfl | rfl | rfl | rfl : c = 0 ∨ c = 1 ∨ c = 2 ∨ c = 3 := by omega
    · exact words_10t0
    · exact words_10t1
    · exact words_10t2
    · exact words_10t3
  · obtain rfl | rfl | rfl | rfl : c = 0 ∨ c = 1 ∨ c = 2 ∨ c = 3 := by omega
    · exact words_11t0
    · exact words_11t1
    · exact words_11t2
    · exact words_11t3
  · obtain rfl | rfl | rfl | rfl : c = 0 ∨ c = 1 ∨ c = 2 ∨ c = 3 := by omega
    · exact words_12t0
    · exact words_12t1
    · exact words_12t2
    · exact words_12t3
  · obtain rfl | rfl | rfl | rfl : c = 0 ∨ c = 1 ∨ c = 2 ∨ c = 3 := by omega
    · exact words_13t0
    · exact words_13t1
    · exact words_13t2
    · exact words_13t3
theorem words_a2f (b c : Nat) (hb : b < 4) (hc : c < 4) : WordsOk 2 b false c := by
  obtain rfl | rfl | rfl | rfl : b = 0 ∨ b = 1 ∨ b = 2 ∨ b = 3 := by omega
  · obtain rfl | rfl | rfl | rfl : c = 0 ∨ c = 1 ∨ c = 2 ∨ c = 3 := by omega
    · exact words_20f0
    · exact words_20f1
    · exact words_20f2
    · exact words_20f3
  · obtain rfl | rfl | rfl | rfl : c = 0 ∨ c = 1 ∨ c = 2 ∨ c = 3 := by omega
    · exact words_21f0
    · exact words_21f1
    · exact words_21f2
    · exact words_21f3
  · obtain rfl | rfl | rfl | rfl : c = 0 ∨ c = 1 ∨ c = 2 ∨ c = 3 := by omega
    · exact words_22f0
    · exact words_22f1
    · exact words_22f2
    · exact words_22f3
  · obtain rfl | rfl | rfl | rfl : c = 0 ∨ c = 1 ∨ c = 2 ∨ c = 3 := by omega
    · exact words_23f0
    · exact words_23f1
    · exact words_23f2
    · exact words_23f3
theorem words_a2t (b c : Nat) (hb : b < 4) (hc : c < 4) : WordsOk 2 b true c := by
  obtain rfl | rfl | rfl | rfl : b = 0 ∨ b = 1 ∨ b = 2 ∨ b = 3 := by omega
  · obtain rfl | rfl | rfl | rfl : c = 0 ∨ c = 1 ∨ c = 2 ∨ c = 3 := by omega
    · exact words_20t0
    · exact words_20t1
    · exact words_20t2
    · exact words_20t3
  · obtain rfl | rfl | rfl | rfl : c = 0 ∨ c = 1 ∨ c = 2 ∨ c = 3 := by omega
    · exact words_21t0
    · exact words_21t1
    · exact words_21t2
    · exact words_21t3
  · obtain rfl | rfl | rfl | rfl : c = 0 ∨ c = 1 ∨ c = 2 ∨ c = 3 := by omega
    · exact words_22t0
    · exact words_22t1
    · exact words_22t2
    · exact words_22t3
  · obtain rfl | rfl | rfl | rfl : c = 0 ∨ c = 1 ∨ c = 2 ∨ c = 3 := by omega
    · exact words_23t0
    · exact words_23t1
    · exact words_23t2
    · exact words_23t3
theorem words_a3f (b c : Nat) (hb : b < 4) (hc : c < 4) : WordsOk 3 b false c := by
  obtain rfl | rfl | rfl | rfl : b = 0 ∨ b = 1 ∨ b = 2 ∨ b = 3 := by omega
  · obtain rfl | rfl | rfl | rfl : c = 0 ∨ c = 1 ∨ c = 2 ∨ c = 3 := by omega
    · exact words_30f0
    · exact words_30f1
    · exact words_30f2
    · exact words_30f3
  · obtain rfl | rfl | rfl | rfl : c = 0 ∨ c = 1 ∨ c = 2 ∨ c = 3 := by omega
    · exact words_31f0
    · exact words_31f1
    · exact words_31f2
    · exact words_31f3
  · obtain rfl | rfl | rfl | rfl : c = 0 ∨ c = 1 ∨ c = 2 ∨ c = 3 := by omega
    · exact words_32f0
    · exact words_32f1
    · exact words_32f2
    · exact words_32f3
  · obtain rfl | rfl | rfl | rfl : c = 0 ∨ c = 1 ∨ c = 2 ∨ c = 3 := by omega
    · exact words_33f0
    · exact words_33f1
    · exact words_33f2
    · exact words_33f3
theorem words_a3t (b c : Nat) (hb : b < 4) (hc : c < 4) : WordsOk 3 b true c := by
  obtain rfl | rfl | rfl | rfl : b = 0 ∨ b = 1 ∨ b = 2 ∨ b = 3 := by omega
  · obtain rfl | rfl | rfl | rfl : c = 0 ∨ c = 1 ∨ c = 2 ∨ c = 3 := by omega
    · exact words_30t0
    · exact words_30t1
    · exact words_30t2
    · exact words_30t3
  · obtain rfl | rfl | rfl | rfl : c = 0 ∨ c = 1 ∨ c = 2 ∨ c = 3 := by omega
    · exact words_31t0
    · exact words_31t1
    · exact words_31t2
    · exact words_31t3
  · obtain rfl | rfl | rfl | rfl : c = 0 ∨ c = 1 ∨ c = 2 ∨ c = 3 := by omega
    · exact words_32t0
    · exact words_32t1
    · exact words_32t2
    · exact words_32t3
  · obtain rfl | rfl | rfl | rfl : c = 0 ∨ c = 1 ∨ c = 2 ∨ c = 3 := by omega
    · exact words_33t0
    · exact words_33t1
    · exact words_33t2
    · exact words_33t3
theorem words_a4f (b c : Nat) (hb : b < 4) (hc : c < 4) : WordsOk 4 b false c := by
  obtain rfl | rfl | rfl | rfl : b = 0 ∨ b = 1 ∨ b = 2 ∨ b = 3 := by omega
  · obtain rfl | rfl | rfl | rfl : c = 0 ∨ c = 1 ∨ c = 2 ∨ c = 3 := by omega
    · exact words_40f0
    · exact words_40f1
    · exact words_40f2
    · exact words_40f3
  · obtain rfl | rfl | rfl | rfl : c = 0 ∨ c = 1 ∨ c = 2 ∨ c = 3 := by omega
    · exact words_41f0
    · exact words_41f1
    · exact words_41f2
    · exact words_41f3
  · obtain rfl | rfl | rfl | rfl : c = 0 ∨ c = 1 ∨ c = 2 ∨ c = 3 := by omega
    · exact words_42f0
    · exact words_42f1
    · exact words_42f2
    · exact words_42f3
  · obtain rfl | rfl | rfl | rfl : c = 0 ∨ c = 1 ∨ c = 2 ∨ c = 3 := by omega
    · exact words_43f0
    · exact words_43f1
    · exact words_43f2
    · exact words_43f3
theorem words_a4t (b c : Nat) (hb : b < 4) (hc : c < 4) : WordsOk 4 b true c := by
  obtain rfl | rfl | rfl | rfl : b = 0 ∨ b = 1 ∨ b = 2 ∨ b = 3 := by omega
  · obtain rfl | rfl | rfl | rfl : c = 0 ∨ c = 1 ∨ c = 2 ∨ c = 3 := by omega
    · exact words_40t0
    · exact words_40t1
    · exact words_40t2
    · exact words_40t3
  · obtain rfl | rfl | rfl | rfl : c = 0 ∨ c = 1 ∨ c = 2 ∨ c = 3 := by omega
    · exact words_41t0
    · exact words_41t1
    · exact words_41t2
    · exact words_41t3
  · obtain rfl | rfl | rfl | rfl : c = 0 ∨ c = 1 ∨ c = 2 ∨ c = 3 := by omega
    · exact words_42t0
    · exact words_42t1
    · exact words_42t2
    · exact words_42t3
  · obtain rfl | rfl | rfl | rfl : c = 0 ∨ c = 1 ∨ c = 2 ∨ c = 3 := by omega
    · exact words_43t0
    · exact words_43t1
    · exact words_43t2
    · exact words_43t3
theorem words_all (a b : Nat) (al : Bool) (c : Nat) (ha : a < 5) (hb : b < 4) (hc : c < 4) : WordsOk a b al c := by
  obtain rfl | rfl | rfl | rfl | rfl : a = 0 ∨ a = 1 ∨ a = 2 ∨ a = 3 ∨ a = 4 := by omega
  · cases al
    · exact words_a0f b c hb hc
    · exact words_a0t b c hb hc
  · cases al
    · exact words_a1f b c hb hc
    · exact words_a1t b c hb hc
  · cases al
    · exact words_a2f b c hb hc
    · exact words_a2t b c hb hc
  · cases al
    · exact words_a3f b c hb hc
    · exact words_a3t b c hb hc
  · cases al
    · exact words_a4f b c hb hc
    · exact words_a4t b c hb hc

end Go.Proofs.YtkfllppggjhhmaaGreatDoor
