/-
  What jval.checkNames answers: each is right UTF-8, none stands twice.
-/
import Derived.Test.YtiblffipfldgjaaGreatDoorVal
import Derived.Test.YtiblffipfldgjaaGreatDoorQuote
import Derived.Maps.OwnSet
import Derived.Maps.AppendAt
import Derived.StringKeys
namespace Go.Proofs.YtiblffipfldgjaaGreatDoor
open Go.RowKit Go.Maps Go.WideMaps

def vbl (x : ByteArray) : List UInt8 := x.data.toList
/-- Names that stand behind others. -/
def nmGo : List (List UInt8) → List (List UInt8) → Bool
  | _, [] => true
  | seen, x :: r => !(decide (x ∈ seen)) && Lib.validD x && nmGo (seen ++ [x]) r
def nmOk (ns : List ByteArray) : Bool := nmGo [] (ns.map vbl)

/-- The set that holds the first k. -/
def Sn (ns : List ByteArray) (k : Nat) : DataW Unit := setOf (.agg []) (((ns.map vbl).take k).map Lit.string)

theorem vbl_inj {a b : ByteArray} (h : vbl a = vbl b) : a = b := by
  cases a with
  | mk a => cases b with
    | mk b => exact congrArg ByteArray.mk (Array.toList_inj.1 h)

theorem lit_same (a b : List UInt8) : (Lit.string a).sameKey (.string b) = decide (b = a) := by
  rw [Bool.eq_iff_iff, WideAt.sameKey_iff (by trivial), decide_eq_true_eq]
  constructor
  · intro h
    injection h with h
    exact h.symm
  · intro h
    subst h
    rfl

theorem has_Sn (ns : List ByteArray) (k : Nat) (x : List UInt8) : Maps.has (Sn ns k) (.string x) = decide (x ∈ (ns.map vbl).take k) := by
  unfold Sn
  rw [has_setOf _ _ _ (fun y hy => by obtain ⟨_, _, rfl⟩ := List.mem_map.1 hy; trivial), List.any_map]
  generalize (ns.map vbl).take k = l
  induction l with
  | nil => simp
  | cons a r ih =>
    rw [List.any_cons, ih, Function.comp_apply, lit_same a x, Bool.eq_iff_iff]
    simp

theorem Sn_next (ns : List ByteArray) (k : Nat) (h : k < ns.length) : Sn ns (k + 1) = (Sn ns k).put (.string (vbl ns[k])) (.agg []) := by
  unfold Sn
  rw [List.take_succ_eq_append_getElem (by simpa using h), List.map_append, List.getElem_map]
  exact setOf_snoc _ _ _

theorem nmGo_step (ns : List ByteArray) (k : Nat) (h : k < ns.length) : nmGo ((ns.map vbl).take k) ((ns.map vbl).drop k) = (!(decide (vbl ns[k] ∈ (ns.map vbl).take k)) && Lib.validD (vbl ns[k]) && nmGo ((ns.map vbl).take (k + 1)) ((ns.map vbl).drop (k + 1))) := by
  rw [List.drop_eq_getElem_cons (by simpa using h), List.take_succ_eq_append_getElem (by simpa using h), List.getElem_map]
  rfl

theorem lawS : Keyed Tryz.prog 9 := string_keyed Tryz.underlying9
theorem ownsMap_below {H : Type} {P : Program} {k : TypeId} {R : Value → Option (DataW H × List MemPlace)} {b n B : Nat} {D : DataW H} {w w' : World} (h : w.ownsMap P k R b n D) (hb : Below B w w') (hlt : b < B) : w'.ownsMap P k R b n D := by
  obtain ⟨es, clock, e, r⟩ := h
  exact ⟨es, clock, (hb.block b hlt).trans e, r⟩

def NamesRel (ns : List ByteArray) (w : World) (i : Value) (wr : World) : Prop :=
  ∃ k : Nat, k ≤ ns.length ∧ i = .int .i64 k ∧ wr.ownsMap Tryz.prog 9 unitElem w.heap.size k (Sn ns k) ∧ Below w.heap.size w wr ∧ nmOk ns = nmGo ((ns.map vbl).take k) ((ns.map vbl).drop k)

end Go.Proofs.YtiblffipfldgjaaGreatDoor
