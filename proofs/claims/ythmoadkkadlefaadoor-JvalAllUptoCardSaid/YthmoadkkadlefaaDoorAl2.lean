/-
  JvalAll, bounded: what the document's names answers.
-/
import Derived.Test.YthmoadkkadlefaaDoorAl1
import Derived.Test.YthmoadkkadlefaaDoorChkN
import Derived.BigQuiet
import Derived.Deep.Cut
import Derived.Deep.LoopGhost
namespace Go.Proofs.YthmoadkkadlefaaDoor
open Go.RowKit

def NmOut (w : World) (ns : List ByteArray) (k : Nat) (v : Value) (wr : World) : Prop :=
  ∃ i m, k = ns.length - i ∧ i ≤ ns.length ∧ v = .int .i64 (i : Nat) ∧ wr = w.drewN m ∧ nmOk ns = nmGo ((ns.take i).map vbl) ((ns.drop i).map vbl)
def NmIn (w : World) (ns : List ByteArray) (i : Nat) (k : Nat) (v : Value) (wr : World) : Prop :=
  ∃ j m, k = i - j ∧ j ≤ i ∧ v = .int .i64 (j : Nat) ∧ wr = w.drewN m ∧ ∀ t (a b : ByteArray), t < j → ns[t]? = some a → ns[i]? = some b → a ≠ b

set_option maxHeartbeats 1000000 in
set_option maxRecDepth 100000 in
theorem refnames_any (B : Nat) (a : Option Addr) (cap : Nat) (ns : List ByteArray) (w : World) (hl : ns.length ≤ 2000000) (hs : Strs w B a ns) :
    Calls Tryd.prog 43 #[.slice a ns.length cap] w fun e w' => e = .returned (.bool (nmOk ns)) ∧ ∃ m, w' = w.drewN m := by
  go_enter Tryd.func43, Tryd.ntmps43
  go_wp2_with fail
  go_loopg [3, 4] ns.length (fun k v _ wr => NmOut w ns k v wr)
  case atStart => exact ⟨0, 0, rfl, Nat.zero_le _, rfl, rfl, rfl⟩
  case round =>
    obtain ⟨i, m, rfl, hi, rfl, rfl, hq⟩ := hrel
    have HQ := Lib.hid hq
    clear hq
    by_cases hlt : i < ns.length
    · obtain ⟨b, off, rfl, hb, hc⟩ := hs (by omega)
      obtain ⟨hz, hci⟩ := hc i _ (List.getElem?_eq_getElem hlt)
      have HC := Lib.hid hc
      clear hc
      have hdr : ns.drop i = ns[i] :: ns.drop (i + 1) := List.drop_eq_getElem_cons hlt
      have hci' : (w.drewN m).cell? ⟨b, off + i, none⟩ = some (.string ns[i]) := hci
      have hv : ∀ W, Calls Tryd.prog 42 #[.string ns[i]] W fun e w' => e = .returned (.bool (Lib.validD (vbl ns[i]))) ∧ W = w' := fun W => refValid_any ns[i] W (by omega)
      cases hval : Lib.validD (vbl ns[i]) with
      | false =>
        rw [hval] at hv
        have HF : Hid (nmOk ns = false) := Lib.hid (by
          rw [HQ.out, hdr]
          show nmGo _ (vbl ns[i] :: _) = false
          unfold nmGo
          rw [hval]
          simp)
        clear hval hdr
        generalize ns[i] = s at *
        go_wp2_with ((go_at_call 42); (with_reducible refine (hv _).mono ?_); rintro e w' ⟨rfl, rfl⟩)
        go_ret
        exact ⟨ret_bool HF.out.symm, m, rfl⟩
      | true =>
        rw [hval] at hv
        have HN : Hid (nmOk ns = (!(decide (vbl ns[i] ∈ (ns.take i).map vbl)) && nmGo ((ns.take (i + 1)).map vbl) ((ns.drop (i + 1)).map vbl))) := Lib.hid (by
          rw [HQ.out, hdr]
          show nmGo _ (vbl ns[i] :: _) = _
          rw [nmGo, hval, Bool.and_true, List.take_succ_eq_append_getElem hlt, List.map_append]
          rfl)
        have HG := Lib.hid (List.getElem?_eq_getElem hlt)
        clear hval hdr
        generalize ns[i] = s at *
        go_wp2_with ((go_at_call 42); (with_reducible refine (hv _).mono ?_); rintro e w' ⟨rfl, rfl⟩)
        go_loopg [4] i (fun k v wr => NmIn w ns i k v wr)
        case atStart => exact ⟨0, m, rfl, Nat.zero_le _, rfl, rfl, fun t a b h => absurd h (by omega)⟩
        case round =>
          obtain ⟨j, m1, rfl, hj, rfl, rfl, hne⟩ := hrel
          have HE := Lib.hid hne
          clear hne
          by_cases hji : j < i
          · have hjl : j < ns.length := by omega
            have hcj := (HC.out j _ (List.getElem?_eq_getElem hjl)).2
            have HJ := Lib.hid (List.getElem?_eq_getElem hjl)
            generalize ns[j] = u at *
            by_cases he : u.toList = s.toList
            · have e1 : (u.toList == s.toList) = true := by simpa using he
              have HF : Hid (nmOk ns = false) := Lib.hid (by
                rw [HN.out, show decide (vbl s ∈ (ns.take i).map vbl) = true from decide_eq_true (List.mem_map.2 ⟨u, List.mem_of_getElem? (i := j) (by rw [List.getElem?_take, if_pos hji]; exact HJ.out), by rw [Lib.toList_data, Lib.toList_data] at he; exact he⟩)]
                rfl)
              clear he
              go_upto_region 9 with fail
              go_quiet (fail)
              go_wp2_with fail
              go_ret
              exact ⟨ret_bool HF.out.symm, _, World.drewN_drewN _ _ _⟩
            · have e1 : (u.toList == s.toList) = false := by simpa using he
              have HX : Hid (u ≠ s) := Lib.hid (fun h => he (by rw [h]))
              clear he
              go_upto_region 9 with fail
              go_quiet (fail)
              go_wp2_with fail
              go_roundg (i - (j + 1))
              case measure => omega
              case rel => exact ⟨j + 1, _, rfl, by omega, by go_num, rfl, fun t a b ht h1 h2 => by
                by_cases h3 : t < j
                · exact HE.out t a b h3 h1 h2
                · obtain rfl : t = j := by omega
                  rw [HJ.out] at h1
                  rw [HG.out] at h2
                  rw [← Option.some.inj h1, ← Option.some.inj h2]
                  exact HX.out⟩
          · have HF : Hid (nmOk ns = nmGo ((ns.take (i + 1)).map vbl) ((ns.drop (i + 1)).map vbl)) := Lib.hid (by
              rw [HN.out, show decide (vbl s ∈ (ns.take i).map vbl) = false from decide_eq_false (fun h => ?_)]
              · rfl
              · obtain ⟨u, hu, e⟩ := List.mem_map.1 h
                obtain ⟨t, ht⟩ := List.mem_iff_getElem?.1 hu
                rw [List.getElem?_take] at ht
                split at ht
                · exact HE.out t u s (by omega) ht HG.out (vbl_inj e)
                · cases ht)
            go_wp2_with fail
            go_roundg (ns.length - (i + 1))
            case measure => omega
            case rel => exact ⟨i + 1, _, rfl, by omega, by go_num, rfl, HF.out⟩
    · go_wp2_with fail
      go_ret
      exact ⟨by rw [HQ.out, List.drop_eq_nil_of_le (by omega)]; rfl, m, rfl⟩

end Go.Proofs.YthmoadkkadlefaaDoor
