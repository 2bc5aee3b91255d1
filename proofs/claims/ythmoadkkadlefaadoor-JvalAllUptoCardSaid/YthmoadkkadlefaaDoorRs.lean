/-
  What the document's Same answers: are two values one?
-/
import Derived.Test.YthmoadkkadlefaaDoorVal
import Derived.BigQuiet
import Derived.Deep.Cut
import Derived.Deep.LoopGhost
import Derived.Deep.RegionWith
import Derived.Deep.QuietTactic
import Derived.StillTailTactics
namespace Go.Proofs.YthmoadkkadlefaaDoor
open Go.RowKit

noncomputable def eqB (x y : JV) : Bool := @decide (x = y) (Classical.propDecidable _)
theorem eqB_true {x y : JV} (h : x = y) : eqB x y = true := by unfold eqB; exact @decide_eq_true _ (Classical.propDecidable _) h
theorem eqB_false {x y : JV} (h : x ≠ y) : eqB x y = false := by unfold eqB; exact @decide_eq_false _ (Classical.propDecidable _) h
theorem eqB_eq {x y : JV} (h : eqB x y = true) : x = y := by unfold eqB at h; exact @of_decide_eq_true _ (Classical.propDecidable _) h
theorem JV.ext' {x y : JV} (h1 : x.k = y.k) (h2 : x.s = y.s) (h3 : x.ns = y.ns) (h4 : x.ps = y.ps) : x = y := by
  cases x; cases y
  simp only [JV.k, JV.s, JV.ns, JV.ps] at h1 h2 h3 h4
  subst h1 h2 h3 h4
  rfl
theorem bytes_ext {a b : ByteArray} (h : a.toList = b.toList) : a = b := by
  rw [Lib.toList_data, Lib.toList_data] at h
  cases a; cases b
  exact congrArg ByteArray.mk (Array.toList_inj.1 h)
theorem drewN_below (w : World) (m : Nat) : Below w.heap.size w (w.drewN m) := ⟨rfl, rfl, rfl, Nat.le_refl _, fun _ _ => rfl⟩

def SameIs (x y : JV) (w : World) (e : Ending) (w' : World) : Prop := e = .returned (.bool (eqB x y)) ∧ Below w.heap.size w w'

def SNames (W : World) (x y : JV) (k : Nat) (v : Value) (wr : World) : Prop :=
  ∃ i m, k = x.ns.length - i ∧ i ≤ x.ns.length ∧ v = .int .i64 (i : Nat) ∧ wr = W.drewN m ∧ ∀ t, t < i → x.ns[t]? = y.ns[t]?
def SParts (W : World) (x y : JV) (k : Nat) (v : Value) (wr : World) : Prop :=
  ∃ i, k = x.ps.length - i ∧ i ≤ x.ps.length ∧ v = .int .i64 (i : Nat) ∧ Below W.heap.size W wr ∧ ∀ t, t < i → x.ps[t]? = y.ps[t]?

theorem lists_ext {α : Type} {a b : List α} (hl : a.length = b.length) (h : ∀ t, t < a.length → a[t]? = b[t]?) : a = b := by
  refine List.ext_getElem? fun t => ?_
  by_cases ht : t < a.length
  · exact h t ht
  · rw [List.getElem?_eq_none (by omega), List.getElem?_eq_none (by omega)]

/-- The two boxes. -/
structure Two (W : World) (A : Nat) (x y : JV) (an : Option Addr) (cn : Nat) (ap : Option Addr) (cp : Nat) (an' : Option Addr) (cn' : Nat) (ap' : Option Addr) (cp' : Nat) : Prop where
  a0 : W.cell? ⟨A, 0, none⟩ = some (.int .i64 x.k)
  a1 : W.cell? ⟨A, 1, none⟩ = some (.string x.s)
  a2 : W.cell? ⟨A, 2, none⟩ = some (.slice an x.ns.length cn)
  a3 : W.cell? ⟨A, 3, none⟩ = some (.slice ap x.ps.length cp)
  b0 : W.cell? ⟨A + 1, 0, none⟩ = some (.int .i64 y.k)
  b1 : W.cell? ⟨A + 1, 1, none⟩ = some (.string y.s)
  b2 : W.cell? ⟨A + 1, 2, none⟩ = some (.slice an' y.ns.length cn')
  b3 : W.cell? ⟨A + 1, 3, none⟩ = some (.slice ap' y.ps.length cp')
theorem Two.below {W W' : World} {A : Nat} {x y : JV} {an : Option Addr} {cn : Nat} {ap : Option Addr} {cp : Nat} {an' : Option Addr} {cn' : Nat} {ap' : Option Addr} {cp' : Nat} (h : Two W A x y an cn ap cp an' cn' ap' cp') {n : Nat} (hb : Below n W W') (hn : A + 2 ≤ n) : Two W' A x y an cn ap cp an' cn' ap' cp' := by
  have c : ∀ k o, k < n → W'.cell? ⟨k, o, none⟩ = W.cell? ⟨k, o, none⟩ := fun k o hk => hb.cell (p := ⟨k, o, none⟩) hk
  exact ⟨(c _ _ (by omega)).trans h.a0, (c _ _ (by omega)).trans h.a1, (c _ _ (by omega)).trans h.a2, (c _ _ (by omega)).trans h.a3, (c _ _ (by omega)).trans h.b0, (c _ _ (by omega)).trans h.b1, (c _ _ (by omega)).trans h.b2, (c _ _ (by omega)).trans h.b3⟩

set_option maxHeartbeats 8000000 in
set_option maxRecDepth 100000 in
theorem refsame_step (n B : Nat) (x y : JV) (va vb : Value) (m : Nat) (w : World) (hB : B ≤ w.heap.size) (hx : Rd w B (n + 1) x va) (hy : Rd w B (m + 1) y vb)
    (ih : ∀ (x y : JV) (va vb : Value) (W : World), B ≤ W.heap.size → Rd W B n x va → Rd W B m y vb → Calls Tryd.prog 18 #[va, vb] W (SameIs x y W)) :
    Calls Tryd.prog 18 #[va, vb] w (SameIs x y w) := by
  obtain ⟨an, cn, ap, cp, rfl, ⟨z1, z2, z3, z4, z5⟩, hs, hr⟩ := hx
  obtain ⟨an', cn', ap', cp', rfl, ⟨z1', z2', z3', z4', z5'⟩, hs', hr'⟩ := hy
  have HI := Lib.hid ih
  obtain ⟨W, hW⟩ : ∃ W, W = ((w.alloc (.cells #[.int .i64 x.k, .string x.s, .slice an x.ns.length cn, .slice ap x.ps.length cp] 25)).alloc (.cells #[.int .i64 y.k, .string y.s, .slice an' y.ns.length cn', .slice ap' y.ps.length cp'] 25)) := ⟨_, rfl⟩
  have hWz : W.heap.size = w.heap.size + 2 := by rw [hW]; simp
  have hbW : Below w.heap.size w W := by rw [hW]; exact ((Below.refl _ w).alloc (Nat.le_refl _) _).alloc (by simp) _
  have hT : Two W w.heap.size x y an cn ap cp an' cn' ap' cp' := by
    rw [hW]
    refine ⟨?_, ?_, ?_, ?_, ?_, ?_, ?_, ?_⟩ <;> go_simp
  have hsW := hs.below (hbW.mono hB)
  have hsW' := hs'.below (hbW.mono hB)
  have hrW := hr.below (hbW.mono hB)
  have hrW' := hr'.below (hbW.mono hB)
  have HW := Lib.hid hW
  have HT := Lib.hid hT
  have HS := Lib.hid hsW
  have HS' := Lib.hid hsW'
  have HRr := Lib.hid hrW
  have HRr' := Lib.hid hrW'
  clear hs hs' hr hr' hsW hsW' hrW hrW' ih hW hT
  obtain ⟨a0, a1, a2, a3, b0, b1, b2, b3⟩ := HT.out
  by_cases e1 : x.k = y.k
  · by_cases e2 : x.s.toList = y.s.toList
    · by_cases e3 : x.ns.length = y.ns.length
      · by_cases e4 : x.ps.length = y.ps.length
        · have d1 : (x.k != y.k) = false := by simpa using e1
          have d2 : (x.s.toList == y.s.toList) = true := by simpa using e2
          have d3 : ((x.ns.length : Int) != (y.ns.length : Int)) = false := by simp; omega
          have d4 : ((x.ps.length : Int) != (y.ps.length : Int)) = false := by simp; omega
          have E1 := Lib.hid e1
          have E2 := Lib.hid (bytes_ext e2)
          have E3 := Lib.hid e3
          have E4 := Lib.hid e4
          clear e1 e2 e3 e4
          go_enter Tryd.func18, Tryd.ntmps18
          go_wp2_with fail
          rw [← HW.out]
          clear d1 d2 d3 d4
          go_loopg [5] x.ns.length (fun k v wr => SNames W x y k v wr)
          case atStart => exact ⟨0, 0, rfl, Nat.zero_le _, rfl, rfl, fun t h => absurd h (by omega)⟩
          case round =>
            obtain ⟨i, q, rfl, hi, rfl, rfl, heq⟩ := hrel
            have HQ := Lib.hid heq
            clear heq
            by_cases hlt : i < x.ns.length
            · have hlt' : i < y.ns.length := by have := E3.out; omega
              obtain ⟨b, off, rfl, hb, _, hc⟩ := HS.out.at_ hlt
              obtain ⟨b', off', rfl, hb', _, hc'⟩ := HS'.out.at_ hlt'
              have G1 := Lib.hid (List.getElem?_eq_getElem hlt)
              have G2 := Lib.hid (List.getElem?_eq_getElem hlt')
              have hd : decide ((i : Int) < (x.ns.length : Int)) = true := decide_eq_true (by omega)
              generalize x.ns[i] = u at *
              generalize y.ns[i] = v at *
              by_cases he : u.toList = v.toList
              · have d5 : (u.toList == v.toList) = true := by simpa using he
                have HE := Lib.hid (bytes_ext he)
                clear he
                go_upto_region 6 with fail
                go_quiet (fail)
                go_wp2_with fail
                go_roundg (x.ns.length - (i + 1))
                case measure => omega
                case rel => exact ⟨i + 1, _, rfl, by omega, by go_num, rfl, fun t ht => by
                  by_cases h : t < i
                  · exact HQ.out t h
                  · obtain rfl : t = i := by omega
                    rw [G1.out, G2.out, HE.out]⟩
              · have d5 : (u.toList == v.toList) = false := by simpa using he
                have HF : Hid (eqB x y = false) := Lib.hid (eqB_false fun h => he (by
                  have h1 := G1.out
                  have h2 := G2.out
                  rw [h] at h1
                  rw [h1] at h2
                  rw [Option.some.inj h2]))
                clear he
                go_upto_region 6 with fail
                go_quiet (fail)
                go_wp2_with fail
                go_ret
                exact ⟨by rw [HF.out]; rfl, hbW.trans (((drewN_below W _).mono (by omega)).trans ((drewN_below _ _).mono (by show w.heap.size ≤ W.heap.size; omega)))⟩
            · have HNS := Lib.hid (lists_ext E3.out (fun t ht => HQ.out t (by omega)))
              have hd : decide ((i : Int) < (x.ns.length : Int)) = false := decide_eq_false (by omega)
              go_wp2_with fail
              go_loopg [6] x.ps.length (fun k v wr => SParts W x y k v wr)
              case atStart => exact ⟨0, rfl, Nat.zero_le _, rfl, drewN_below W _, fun t h => absurd h (by omega)⟩
              case round =>
                obtain ⟨j, rfl, hj, rfl, hbr, heq⟩ := hrel
                have HQ2 := Lib.hid heq
                clear heq
                have hT2 := HT.out.below hbr (by omega)
                obtain ⟨g0, g1, g2, g3, k0, k1, k2, k3⟩ := hT2
                have hzr := hbr.size
                clear a0 a1 a2 a3 b0 b1 b2 b3
                by_cases hlt2 : j < x.ps.length
                · have hlt2' : j < y.ps.length := by have := E4.out; omega
                  have hd2 : decide ((j : Int) < (x.ps.length : Int)) = true := decide_eq_true (by omega)
                  obtain ⟨b, off, u, pan, pcn, pap, pcp, G1, rfl, hb, hRu, f0, f1, f2, f3⟩ := HRr.out.elem hlt2 (hbr.mono (by omega))
                  obtain ⟨b', off', v, pan', pcn', pap', pcp', G2, rfl, hb', hRv, f0', f1', f2', f3'⟩ := HRr'.out.elem hlt2' (hbr.mono (by omega))
                  have hC := HI.out u v _ _ wr.drew (by show B ≤ wr.heap.size; omega) (Rd.keep (w := wr) (w' := wr.drew) (fun _ _ _ => rfl) hRu) (Rd.keep (w := wr) (w' := wr.drew) (fun _ _ _ => rfl) hRv)
                  unfold SameIs at hC
                  clear hRu hRv
                  cases hE : eqB u v with
                  | true =>
                    rw [hE] at hC
                    have HC := Lib.hid hC
                    have HUV := Lib.hid (eqB_eq hE)
                    clear hC hE
                    go_upto_region 11 with fail
                    go_region_with ((go_at_call 18); (with_reducible refine HC.out.mono ?_); rintro e w5 ⟨rfl, b5⟩)
                    all_goals
                      go_wp2_with fail
                      go_roundg (x.ps.length - (j + 1))
                      case measure => omega
                      case rel => exact ⟨j + 1, rfl, by omega, by go_num, hbr.trans ⟨b5.os, b5.tape, b5.output, b5.size, fun k hk => b5.block k (Nat.lt_of_lt_of_le hk hzr)⟩, fun t ht => by
                        by_cases h : t < j
                        · exact HQ2.out t h
                        · obtain rfl : t = j := by omega
                          rw [List.getElem?_eq_getElem hlt2, List.getElem?_eq_getElem hlt2', G1.out, G2.out, HUV.out]⟩
                  | false =>
                    rw [hE] at hC
                    have HC := Lib.hid hC
                    have HF : Hid (eqB x y = false) := Lib.hid (eqB_false fun h => by
                      have h1 := G1.out
                      have h2 := G2.out
                      subst h
                      rw [← h1, ← h2, eqB_true rfl] at hE
                      cases hE)
                    clear hC hE
                    go_upto_region 11 with fail
                    go_region_with ((go_at_call 18); (with_reducible refine HC.out.mono ?_); rintro e w5 ⟨rfl, b5⟩)
                    all_goals
                      go_wp2_with fail
                      go_ret
                      exact ⟨by rw [HF.out]; rfl, hbW.trans ((hbr.mono (by omega)).trans ⟨b5.os, b5.tape, b5.output, b5.size, fun k hk => b5.block k (by show k < wr.heap.size; omega)⟩)⟩
                · have hd2 : decide ((j : Int) < (x.ps.length : Int)) = false := decide_eq_false (by omega)
                  have HX := Lib.hid (JV.ext' E1.out E2.out HNS.out (lists_ext E4.out (fun t ht => HQ2.out t (by omega))))
                  go_wp2_with fail
                  go_ret
                  exact ⟨by rw [eqB_true HX.out]; rfl, hbW.trans (hbr.mono (by omega))⟩
        · have HF : Hid (eqB x y = false) := Lib.hid (eqB_false fun h => e4 (by rw [h]))
          have d1 : (x.k != y.k) = false := by simpa using e1
          have d2 : (x.s.toList == y.s.toList) = true := by simpa using e2
          have d3 : ((x.ns.length : Int) != (y.ns.length : Int)) = false := by simp; omega
          have d4 : ((x.ps.length : Int) != (y.ps.length : Int)) = true := by simp; omega
          clear e1 e2 e3 e4
          go_enter Tryd.func18, Tryd.ntmps18
          go_wp2_with fail
          go_ret
          rw [← HW.out]
          exact ⟨by rw [HF.out]; rfl, hbW⟩
      · have HF : Hid (eqB x y = false) := Lib.hid (eqB_false fun h => e3 (by rw [h]))
        have d1 : (x.k != y.k) = false := by simpa using e1
        have d2 : (x.s.toList == y.s.toList) = true := by simpa using e2
        have d3 : ((x.ns.length : Int) != (y.ns.length : Int)) = true := by simp; omega
        clear e1 e2 e3
        go_enter Tryd.func18, Tryd.ntmps18
        go_wp2_with fail
        go_ret
        rw [← HW.out]
        exact ⟨by rw [HF.out]; rfl, hbW⟩
    · have HF : Hid (eqB x y = false) := Lib.hid (eqB_false fun h => e2 (by rw [h]))
      have d1 : (x.k != y.k) = false := by simpa using e1
      have d2 : (x.s.toList == y.s.toList) = false := by simpa using e2
      clear e1 e2
      go_enter Tryd.func18, Tryd.ntmps18
      go_wp2_with fail
      go_ret
      rw [← HW.out]
      exact ⟨by rw [HF.out]; rfl, hbW⟩
  · have HF : Hid (eqB x y = false) := Lib.hid (eqB_false fun h => e1 (by rw [h]))
    have d1 : (x.k != y.k) = true := by simpa using e1
    clear e1
    go_enter Tryd.func18, Tryd.ntmps18
    go_wp2_with fail
    go_ret
    rw [← HW.out]
    exact ⟨by rw [HF.out]; rfl, hbW⟩

theorem refsame_any (B : Nat) : ∀ (n m : Nat) (x y : JV) (va vb : Value) (w : World), B ≤ w.heap.size → Rd w B n x va → Rd w B m y vb → Calls Tryd.prog 18 #[va, vb] w (SameIs x y w)
  | 0, _, _, _, _, _, _, _, h, _ => h.elim
  | _ + 1, 0, _, _, _, _, _, _, _, h => h.elim
  | n + 1, m + 1, x, y, va, vb, w, hB, hx, hy => refsame_step n B x y va vb m w hB hx hy fun x y va vb W hB hx hy => refsame_any B n m x y va vb W hB hx hy

end Go.Proofs.YthmoadkkadlefaaDoor
