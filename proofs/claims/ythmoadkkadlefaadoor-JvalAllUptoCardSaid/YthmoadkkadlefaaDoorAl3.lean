/-
  JvalAll, bounded: what refectorylaw02.Few answers.
-/
import Derived.Test.YthmoadkkadlefaaDoorAl2
import Derived.Test.YthmoadkkadlefaaDoorChk
namespace Go.Proofs.YthmoadkkadlefaaDoor
open Go.RowKit

def fewB : Nat → JV → Bool
  | 0, _ => false
  | d + 1, x => decide (x.ps.length ≤ 12) && decide (x.ns.length ≤ 12) && decide (x.s.size ≤ 100) && x.ns.all (fun n => decide (n.size ≤ 100)) && x.ps.all (fewB d)
def FewRel (m : Nat) (ps : List JV) (W1 : World) (i : Value) (wr : World) : Prop :=
  ∃ k : Nat, k ≤ ps.length ∧ i = .int .i64 k ∧ Below W1.heap.size W1 wr ∧ ps.all (fewB m) = (ps.drop k).all (fewB m)
theorem all_at {α : Type} (f : α → Bool) (l : List α) (k : Nat) (h : k < l.length) : (l.drop k).all f = (f l[k] && (l.drop (k + 1)).all f) := by
  rw [List.drop_eq_getElem_cons h, List.all_cons]

set_option maxHeartbeats 2000000 in
set_option maxRecDepth 100000 in
theorem few_any : ∀ (d : Nat), d ≤ 14 → ∀ (D : Int), D = d → ∀ (B n : Nat) (x : JV) (v : Value) (w : World), B ≤ w.heap.size → Rd w B n x v →
    Calls Tryd.prog 7 #[v, .int .i64 D] w (BoolBelow (fewB d x) w) := by
  intro d
  induction d with
  | zero =>
    intro _ D hD B n x v w hB h
    obtain ⟨an, cn, ap, cp, rfl⟩ := h.shape
    subst hD
    go_enter Tryd.func7, Tryd.ntmps7
    go_wp2_with fail
    go_ret
    exact boolBelow_of rfl ((Below.refl _ w).alloc (Nat.le_refl _) _)
  | succ d ih =>
    intro hd D hD B n x v w hB h
    match n, h with
    | n + 1, h =>
    obtain ⟨an, cn, ap, cp, rfl, ⟨z1, z2, z3, z4, z5⟩, hs, hr⟩ := h
    have HI := Lib.hid ih
    clear ih
    have HD : Hid (D - 1 = d) := Lib.hid (by omega)
    have hD0 : (D == 0) = false := by simp; omega
    have hD1 : 1 ≤ D := by omega
    have hD2 : D ≤ 14 := by omega
    clear hD
    have HB : Hid (fewB (d + 1) x = (decide (x.ps.length ≤ 12) && decide (x.ns.length ≤ 12) && decide (x.s.size ≤ 100) && x.ns.all (fun n => decide (n.size ≤ 100)) && x.ps.all (fewB d))) := Lib.hid rfl
    have hbA : ∀ o, Below w.heap.size w (w.alloc o) := fun o => (Below.refl _ w).alloc (Nat.le_refl _) o
    by_cases hps : 12 < x.ps.length
    · have HF : Hid (false = fewB (d + 1) x) := Lib.hid (by rw [HB.out, decide_eq_false (show ¬ x.ps.length ≤ 12 by omega)]; rfl)
      have e1 : decide ((12 : Int) < x.ps.length) = true := by simp; omega
      go_enter Tryd.func7, Tryd.ntmps7
      go_wp2_with fail
      go_ret
      exact boolBelow_of HF.out (hbA _)
    by_cases hns : 12 < x.ns.length
    · have HF : Hid (false = fewB (d + 1) x) := Lib.hid (by rw [HB.out, decide_eq_false (show ¬ x.ns.length ≤ 12 by omega)]; simp)
      have e1 : decide ((12 : Int) < x.ps.length) = false := by simp; omega
      have e2 : decide ((12 : Int) < x.ns.length) = true := by simp; omega
      go_enter Tryd.func7, Tryd.ntmps7
      go_wp2_with fail
      go_ret
      exact boolBelow_of HF.out (hbA _)
    by_cases hsz : 100 < x.s.size
    · have HF : Hid (false = fewB (d + 1) x) := Lib.hid (by rw [HB.out, decide_eq_false (show ¬ x.s.size ≤ 100 by omega)]; simp)
      have e1 : decide ((12 : Int) < x.ps.length) = false := by simp; omega
      have e2 : decide ((12 : Int) < x.ns.length) = false := by simp; omega
      have e3 : decide ((100 : Int) < x.s.size) = true := by simp; omega
      go_enter Tryd.func7, Tryd.ntmps7
      go_wp2_with fail
      go_ret
      exact boolBelow_of HF.out (hbA _)
    have HF : Hid (fewB (d + 1) x = (x.ns.all (fun n => decide (n.size ≤ 100)) && x.ps.all (fewB d))) := Lib.hid (by
      rw [HB.out, decide_eq_true (show x.ps.length ≤ 12 by omega), decide_eq_true (show x.ns.length ≤ 12 by omega), decide_eq_true (show x.s.size ≤ 100 by omega)]
      simp)
    clear HB
    have e1 : decide ((12 : Int) < x.ps.length) = false := by simp; omega
    have e2 : decide ((12 : Int) < x.ns.length) = false := by simp; omega
    have e3 : decide ((100 : Int) < x.s.size) = false := by simp; omega
    go_enter Tryd.func7, Tryd.ntmps7
    go_wp2_with fail
    clear e1 e2 e3
    go_loop [5] (fun v => ∃ k : Nat, k ≤ x.ns.length ∧ v = .int .i64 k ∧ Hid (x.ns.all (fun n => decide (n.size ≤ 100)) = (x.ns.drop k).all (fun n => decide (n.size ≤ 100)))) (fun v => x.ns.length - (intOf v).toNat)
    case atStart => exact ⟨0, Nat.zero_le _, rfl, Lib.hid rfl⟩
    case round =>
      obtain ⟨k, hk, rfl, HA⟩ := hrel
      by_cases hlt : k < x.ns.length
      · obtain ⟨b, off, rfl, hb, hc⟩ := hs (by omega)
        obtain ⟨hz, hci⟩ := hc k _ (List.getElem?_eq_getElem hlt)
        have HS := Lib.hid (all_at (fun n : ByteArray => decide (n.size ≤ 100)) x.ns k hlt)
        have hbw : b < w.heap.size := by omega
        have hbw2 : b ≠ w.heap.size := by omega
        clear hc hs hr
        generalize x.ns[k] = s at *
        by_cases h100 : 100 < s.size
        · have e1 : decide ((100 : Int) < s.size) = true := by simp; omega
          have HX : Hid (false = fewB (d + 1) x) := Lib.hid (by rw [HF.out, HA.out, HS.out, decide_eq_false (show ¬ s.size ≤ 100 by omega)]; rfl)
          go_wp2_with fail
          go_ret
          exact boolBelow_of HX.out (hbA _)
        · have e1 : decide ((100 : Int) < s.size) = false := by simp; omega
          go_wp2_with fail
          go_round
          case rel => exact ⟨k + 1, by omega, by go_num, Lib.hid (by rw [HA.out, HS.out, decide_eq_true (show s.size ≤ 100 by omega)]; simp)⟩
          case measure => simp [intOf]; omega
      · have HG : Hid (fewB (d + 1) x = x.ps.all (fewB d)) := Lib.hid (by rw [HF.out, HA.out, List.drop_of_length_le (by omega)]; rfl)
        clear HA hs
        go_wp2_with fail
        obtain ⟨W1, hW1⟩ : ∃ W1, W1 = w.alloc (.cells #[.int .i64 x.k, .string x.s, .slice an x.ns.length cn, .slice ap x.ps.length cp] 25) := ⟨_, rfl⟩
        rw [← hW1]
        have B1 : Below w.heap.size w W1 := by rw [hW1]; exact hbA _
        have s1 : W1.heap.size = w.heap.size + 1 := by rw [hW1]; simp
        have c1 : W1.cell? ⟨w.heap.size, 3, none⟩ = some (.slice ap x.ps.length cp) := by rw [hW1]; go_simp
        clear hW1 hbA
        go_loopw [6] (fun i wr => FewRel d x.ps W1 i wr) (fun i _ => x.ps.length - (intOf i).toNat)
        case atStart => exact ⟨0, Nat.zero_le _, rfl, Below.refl _ _, rfl⟩
        case round =>
          obtain ⟨k, hk, rfl, hbw, hall⟩ := hrel
          have HA := Lib.hid hall
          clear hall
          have c2 : wr.cell? ⟨w.heap.size, 3, none⟩ = some (.slice ap x.ps.length cp) := (hbw.cell (p := ⟨w.heap.size, 3, none⟩) (by show w.heap.size < _; omega)).trans c1
          have hws := hbw.size
          have BW := B1.trans (hbw.mono B1.size)
          by_cases hlt : k < x.ps.length
          · have HS := Lib.hid (all_at (fewB d) x.ps k hlt)
            obtain ⟨b, off, y, an', cn', ap', cp', HY, rfl, hb, hRr, g0, g1, g2, g3⟩ := hr.elem hlt (BW.mono hB)
            rw [HY.out] at HS
            clear hr HY c1
            have hih := HI.out (by omega) (D - 1) HD.out B n y _ wr (by omega) hRr
            cases hc : fewB d y with
            | false =>
              rw [hc] at hih HS
              clear hc
              go_wp2_with ((go_at_call 7); (with_reducible refine hih.mono ?_); rintro e w2 ⟨rfl, b2⟩)
              go_ret
              exact boolBelow_of (by rw [HG.out, HA.out, HS.out]; rfl) (BW.trans (b2.mono BW.size))
            | true =>
              rw [hc] at hih HS
              clear hc
              go_wp2_with ((go_at_call 7); (with_reducible refine hih.mono ?_); rintro e w2 ⟨rfl, b2⟩)
              go_roundw
              case rel => exact ⟨k + 1, by omega, by go_num, hbw.trans (b2.mono hws), by rw [HA.out, HS.out]; rfl⟩
              case measure => simp [intOf]; omega
          · go_wp2_with fail
            go_ret
            exact boolBelow_of (by rw [HG.out, HA.out, List.drop_of_length_le (by omega)]; rfl) BW

end Go.Proofs.YthmoadkkadlefaaDoor
