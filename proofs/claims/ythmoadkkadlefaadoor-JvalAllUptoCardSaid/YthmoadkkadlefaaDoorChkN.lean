/-
  What jval.checkNames answers: each is right UTF-8, none stands twice.
-/
import Derived.Test.YthmoadkkadlefaaDoorVal
import Derived.Test.YthmoadkkadlefaaDoorQuote
import Derived.Maps.OwnSet
import Derived.Maps.AppendAt
import Derived.StringKeys
namespace Go.Proofs.YthmoadkkadlefaaDoor
open Go.RowKit Go.Maps Go.WideMaps

def vbl (x : ByteArray) : List UInt8 := x.data.toList
/-- Names that stand behind others. -/
def nmGo : List (List UInt8) → List (List UInt8) → Bool
  | _, [] => true
  | seen, x :: r => !(decide (x ∈ seen)) && Lib.validD x && nmGo (seen ++ [x]) r
def nmOk (ns : List ByteArray) : Bool := nmGo [] (ns.map vbl)

/-- The set that holds the first k. -/
def Sn (ns : List ByteArray) (k : Nat) : DataW Unit := setOf (.agg []) (((ns.map vbl).take k).map Lit.string)

theorem vbl_inj {a b : ByteArray} (h : vbl a = vbl b) : a = b := by
  cases a with
  | mk a => cases b with
    | mk b => exact congrArg ByteArray.mk (Array.toList_inj.1 h)

theorem lit_same (a b : List UInt8) : (Lit.string a).sameKey (.string b) = decide (b = a) := by
  rw [Bool.eq_iff_iff, WideAt.sameKey_iff (by trivial), decide_eq_true_eq]
  constructor
  · intro h
    injection h with h
    exact h.symm
  · intro h
    subst h
    rfl

theorem has_Sn (ns : List ByteArray) (k : Nat) (x : List UInt8) : Maps.has (Sn ns k) (.string x) = decide (x ∈ (ns.map vbl).take k) := by
  unfold Sn
  rw [has_setOf _ _ _ (fun y hy => by obtain ⟨_, _, rfl⟩ := List.mem_map.1 hy; trivial), List.any_map]
  generalize (ns.map vbl).take k = l
  induction l with
  | nil => simp
  | cons a r ih =>
    rw [List.any_cons, ih, Function.comp_apply, lit_same a x, Bool.eq_iff_iff]
    simp

theorem Sn_next (ns : List ByteArray) (k : Nat) (h : k < ns.length) : Sn ns (k + 1) = (Sn ns k).put (.string (vbl ns[k])) (.agg []) := by
  unfold Sn
  rw [List.take_succ_eq_append_getElem (by simpa using h), List.map_append, List.getElem_map]
  exact setOf_snoc _ _ _

theorem nmGo_step (ns : List ByteArray) (k : Nat) (h : k < ns.length) : nmGo ((ns.map vbl).take k) ((ns.map vbl).drop k) = (!(decide (vbl ns[k] ∈ (ns.map vbl).take k)) && Lib.validD (vbl ns[k]) && nmGo ((ns.map vbl).take (k + 1)) ((ns.map vbl).drop (k + 1))) := by
  rw [List.drop_eq_getElem_cons (by simpa using h), List.take_succ_eq_append_getElem (by simpa using h), List.getElem_map]
  rfl

theorem lawS : Keyed Tryd.prog 9 := string_keyed Tryd.underlying9
theorem zeroU (w : World) : (zeroValue 91).run Tryd.prog w = .ok (.agg #[]) w := by kernel_rfl

theorem ownsMap_below {H : Type} {P : Program} {k : TypeId} {R : Value → Option (DataW H × List MemPlace)} {b n B : Nat} {D : DataW H} {w w' : World} (h : w.ownsMap P k R b n D) (hb : Below B w w') (hlt : b < B) : w'.ownsMap P k R b n D := by
  obtain ⟨es, clock, e, r⟩ := h
  exact ⟨es, clock, (hb.block b hlt).trans e, r⟩

def NamesRel (ns : List ByteArray) (w : World) (i : Value) (wr : World) : Prop :=
  ∃ k : Nat, k ≤ ns.length ∧ i = .int .i64 k ∧ wr.ownsMap Tryd.prog 9 unitElem w.heap.size k (Sn ns k) ∧ Below w.heap.size w wr ∧ nmOk ns = nmGo ((ns.map vbl).take k) ((ns.map vbl).drop k)

set_option maxHeartbeats 1000000 in
set_option maxRecDepth 100000 in
theorem checkNames_any (B : Nat) (a : Option Addr) (cap : Nat) (ns : List ByteArray) (w : World) (hB : B ≤ w.heap.size) (hl : ns.length ≤ 2000000) (hs : Strs w B a ns) :
    Calls Tryd.prog 54 #[.slice a ns.length cap] w fun e w' => e = .returned (.bool (nmOk ns)) ∧ Below w.heap.size w w' := by
  have hmm := @run_makeMap Tryd.prog
  go_enter Tryd.func54, Tryd.ntmps54
  go_wp2_with fail
  go_loopw [11] (fun i wr => NamesRel ns w i wr) (fun i _ => ns.length - (intOf i).toNat)
  case atStart => exact ⟨0, Nat.zero_le _, rfl, World.ownsMap_made _ _ _ _, (Below.refl _ _).alloc (Nat.le_refl _) _, rfl⟩
  case round =>
    obtain ⟨k, hk, rfl, hown, hbw, hnm⟩ := hrel
    have HN := Lib.hid hnm
    clear hnm
    by_cases hlt : k < ns.length
    · obtain ⟨b, off, rfl, hb, hsz, hc⟩ := hs.at_ hlt
      have hcx : wr.cell? ⟨b, off + k, none⟩ = some (.string ns[k]) := (hbw.cell (p := ⟨b, off + k, none⟩) (by show b < _; omega)).trans hc
      have HS := Lib.hid (nmGo_step ns k hlt)
      have HH := Lib.hid (has_Sn ns k (vbl ns[k]))
      have HT := Lib.hid (Sn_next ns k hlt)
      have hkey : keyOf Tryd.prog 9 (.string ns[k]) = some (.string (vbl ns[k])) := keyOf_string_mk Tryd.underlying9 (by unfold Go.maxLen; omega)
      clear hc
      generalize hx : ns[k] = x at *
      clear hx
      have hlts : w.heap.size < (wr.alloc (.cells #[] 91)).heap.size := by
        have := hbw.size
        simp
        omega
      cases hh : Maps.has (Sn ns k) (.string (vbl x)) with
      | true =>
        have HF := Lib.hid (show nmOk ns = false by rw [HN.out, HS.out, ← HH.out, hh]; rfl)
        go_wp2_with (at_lookup; refine wpList_lookup_own_unit _ rfl _ _ 90 rfl 9 91 lawS Tryd.underlying90 (zeroU _) w.heap.size k _ rfl hown _ _ rfl hkey ?_)
        go_ret
        exact ⟨ret_bool (by rw [HF.out]), hbw.alloc hbw.size _⟩
      | false =>
        have hval : ∀ W, Calls Tryd.prog 58 #[.string x] W fun e w' => e = .returned (.bool (Lib.validD (vbl x))) ∧ Below W.heap.size W w' := fun W => valid_any x W
        cases hv : Lib.validD (vbl x) with
        | false =>
          have HF := Lib.hid (show nmOk ns = false by rw [HN.out, HS.out, hv, Bool.and_false]; rfl)
          rw [hv] at hval
          go_wp2_with (first
            | (at_lookup; refine wpList_lookup_own_unit _ rfl _ _ 90 rfl 9 91 lawS Tryd.underlying90 (zeroU _) w.heap.size k _ rfl hown _ _ rfl hkey ?_)
            | ((go_at_call 58); (refine (hval _).mono ?_); rintro e w1 ⟨rfl, b1⟩))
          go_ret
          exact ⟨ret_bool (by rw [HF.out]), (hbw.alloc hbw.size _).trans (b1.mono (by simp; exact Nat.le_trans hbw.size (by omega)))⟩
        | true =>
          have HF := Lib.hid (show nmOk ns = nmGo ((ns.map vbl).take (k + 1)) ((ns.map vbl).drop (k + 1)) by rw [HN.out, HS.out, hv, ← HH.out, hh]; rfl)
          rw [hv] at hval
          go_wp2_with (first
            | (at_lookup; refine wpList_lookup_own_unit _ rfl _ _ 90 rfl 9 91 lawS Tryd.underlying90 (zeroU _) w.heap.size k _ rfl hown _ _ rfl hkey ?_)
            | ((go_at_call 58); (refine (hval _).mono ?_); rintro e w1 ⟨rfl, b1⟩; have hown1 := ownsMap_below (hown.alloc (.cells #[] 91)) b1 hlts)
            | (at_mapUpdate; refine wpList_mapUpdate_own _ rfl _ _ _ 90 rfl 9 91 lawS Tryd.underlying90 (unitElem (H := Unit)) w.heap.size k _ rfl hown1 (by unfold Go.maxLen; omega) _ _ _ rfl rfl hkey _ [] unitElem_mk ?_; intro w2 hown2 hgrow2))
          have hbw1 : Below w.heap.size w w1 := (hbw.alloc hbw.size _).trans (b1.mono (by simp; exact Nat.le_trans hbw.size (by omega)))
          go_roundw
          case rel => exact ⟨k + 1, by omega, by go_num, by rw [HT.out]; exact hown2, hbw1.grown hgrow2 hbw1.size (fun j hj => by cases hj; exact Nat.le_refl _), HF.out⟩
          case measure => simp [intOf]; omega
    · go_wp2_with fail
      go_ret
      exact ⟨ret_bool (by rw [HN.out, List.drop_of_length_le (by simp; omega)]; rfl), hbw⟩

end Go.Proofs.YthmoadkkadlefaaDoor
