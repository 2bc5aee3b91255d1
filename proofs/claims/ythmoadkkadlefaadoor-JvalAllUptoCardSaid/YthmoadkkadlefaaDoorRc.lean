/-
  What the document's check and Check answer: the same as the program's.
-/
import Derived.Test.YthmoadkkadlefaaDoorRn2
import Derived.Test.YthmoadkkadlefaaDoorAl2
import Derived.Test.YthmoadkkadlefaaDoorRs
import Derived.Test.YthmoadkkadlefaaDoorChk
namespace Go.Proofs.YthmoadkkadlefaaDoor
open Go.RowKit

theorem chk_leaf {d : Nat} {k : Int} {s : ByteArray} (h7 : k ≠ 7) (h8 : k ≠ 8) : chkAt (d + 1) (.mk k s [] []) = leafB k (vbl s) := by
  unfold chkAt
  rw [self_leaf (x := .mk k s [] []) h7 h8]
  show (true && true && leafB k (vbl s) && true) = _
  simp
theorem chk_ns {d : Nat} {k : Int} {s : ByteArray} {ns : List ByteArray} {ps : List JV} (h7 : k ≠ 7) (h8 : k ≠ 8) (h : 0 < ns.length) : chkAt (d + 1) (.mk k s ns ps) = false := by
  unfold chkAt
  rw [self_leaf (x := .mk k s ns ps) h7 h8]
  cases ns with
  | nil => exact absurd h (by decide)
  | cons => rfl
theorem chk_ps {d : Nat} {k : Int} {s : ByteArray} {ns : List ByteArray} {ps : List JV} (h7 : k ≠ 7) (h8 : k ≠ 8) (h : 0 < ps.length) : chkAt (d + 1) (.mk k s ns ps) = false := by
  unfold chkAt
  rw [self_leaf (x := .mk k s ns ps) h7 h8]
  cases ps with
  | nil => exact absurd h (by decide)
  | cons => show ((ns.isEmpty && false && _) && _) = false; simp
theorem leaf_none {k : Int} {l : List UInt8} (h : k < 1 ∨ 5 < k) : leafB k l = false := by
  unfold leafB
  rw [if_neg (by omega), if_neg (by omega), if_neg (by omega), if_neg (by omega), if_neg (by omega)]


set_option maxHeartbeats 4000000 in
set_option maxRecDepth 100000 in
theorem refcheck_any : ∀ (d : Nat), d ≤ 12 → ∀ (D : Int), D = d → ∀ (B n : Nat) (x : JV) (v : Value) (w : World), B ≤ w.heap.size → Rd w B n x v →
    Calls Tryd.prog 30 #[v, .int .i64 D] w (BoolBelow (chkAt d x) w) := by
  intro d
  induction d with
  | zero =>
    intro _ D hD B n x v w hB h
    obtain ⟨an, cn, ap, cp, rfl⟩ := h.shape
    have HN := refnum_any x.s
    subst hD
    go_enter Tryd.func30, Tryd.ntmps30
    go_wp2_with ((go_at_call 10); (with_reducible refine (HN _).mono ?_); rintro e w1 ⟨rfl, rfl⟩)
    go_ret
    exact boolBelow_of rfl ((Below.refl _ w).alloc (Nat.le_refl _) _)
  | succ d ih =>
    intro hd D hD B n x v w hB h
    match n, h with
    | n + 1, h =>
    obtain ⟨an, cn, ap, cp, rfl, ⟨z1, z2, z3, z4, z5⟩, hs, hr⟩ := h
    obtain ⟨k, s, ns, ps⟩ := x
    simp only [JV.k, JV.s, JV.ns, JV.ps] at *
    have HN : ∀ W, Calls Tryd.prog 10 #[.string s] W fun e w' => e = .returned (.tuple #[.bool (numWhole (vbl s)), .bool (numOk (vbl s))]) ∧ W = w' := fun W => refnum_any s W
    have HI := Lib.hid ih
    clear ih
    have HD : Hid (D - 1 = d) := Lib.hid (by omega)
    have hD1 : decide (D < 1) = false := decide_eq_false (by omega)
    have hD2 : 1 ≤ D := by omega
    have hD3 : D ≤ 12 := by omega
    clear hD
    have hbA : ∀ o, Below w.heap.size w (w.alloc o) := fun o => (Below.refl _ w).alloc (Nat.le_refl _) o
    by_cases h7 : k = 7
    · subst h7
      by_cases hn0 : 0 < ns.length
      · have e0 : decide ((0 : Int) < ns.length) = true := decide_eq_true (by omega)
        have HF := Lib.hid (show false = chkAt (d + 1) (.mk 7 s ns ps) by
          unfold chkAt
          rw [self_list (x := .mk 7 s ns ps) rfl]
          cases ns with
          | nil => exact absurd hn0 (by decide)
          | cons => show false = ((_ && false) && _); simp)
        go_enter Tryd.func30, Tryd.ntmps30
        go_wp2_with ((go_at_call 10); (with_reducible refine (HN _).mono ?_); rintro e w1 ⟨rfl, rfl⟩)
        go_ret
        exact boolBelow_of HF.out (hbA _)
      · have e0 : decide ((0 : Int) < ns.length) = false := decide_eq_false (by omega)
        have HG := Lib.hid (show chkAt (d + 1) (.mk 7 s ns ps) = ((vbl s).isEmpty && ps.all (chkAt d)) by
          obtain rfl : ns = [] := List.eq_nil_of_length_eq_zero (by omega)
          unfold chkAt
          rw [self_list (x := .mk 7 s [] ps) rfl]
          show ((_ && true) && _) = _
          rw [Bool.and_true]
          rfl)
        go_enter Tryd.func30, Tryd.ntmps30
        go_wp2_with ((go_at_call 10); (with_reducible refine (HN _).mono ?_); rintro e w1 ⟨rfl, rfl⟩)

        obtain ⟨W1, hW1⟩ : ∃ W1, W1 = w.alloc (.cells #[.int .i64 7, .string s, .slice an ns.length cn, .slice ap ps.length cp] 25) := ⟨_, rfl⟩
        rw [← hW1]
        have B1 : Below w.heap.size w W1 := by rw [hW1]; exact hbA _
        have s1 : W1.heap.size = w.heap.size + 1 := by rw [hW1]; simp
        have c1 : W1.cell? ⟨w.heap.size, 3, none⟩ = some (.slice ap ps.length cp) := by rw [hW1]; go_simp
        have c0 : W1.cell? ⟨w.heap.size, 1, none⟩ = some (.string s) := by rw [hW1]; go_simp
        clear hW1 hbA
        clear e0
        go_loopw [7] (fun i wr => ChkRel d ps W1 i wr) (fun i _ => ps.length - (intOf i).toNat)
        case atStart => exact ⟨0, Nat.zero_le _, rfl, Below.refl _ _, rfl⟩
        case round =>
          obtain ⟨q, hk, rfl, hbw, hall⟩ := hrel
          have HA := Lib.hid hall
          clear hall
          have c2 : wr.cell? ⟨w.heap.size, 3, none⟩ = some (.slice ap ps.length cp) := (hbw.cell (p := ⟨w.heap.size, 3, none⟩) (by show w.heap.size < _; omega)).trans c1
          have c3 : wr.cell? ⟨w.heap.size, 1, none⟩ = some (.string s) := (hbw.cell (p := ⟨w.heap.size, 1, none⟩) (by show w.heap.size < _; omega)).trans c0
          have hws := hbw.size
          have BW := B1.trans (hbw.mono B1.size)
          by_cases hlt : q < ps.length
          · have HS := Lib.hid (all_step (chkAt d) ps q hlt)
            obtain ⟨b, off, y, an', cn', ap', cp', HY, rfl, hb, hRr, g0, g1, g2, g3⟩ := hr.elem hlt (BW.mono hB)
            rw [HY.out] at HS
            clear hr HY c1 c0
            have hih := HI.out (by omega) (D - 1) HD.out B n y _ wr (by omega) hRr
            cases hc : chkAt d y with
            | false =>
              rw [hc] at hih HS
              clear hc
              go_wp2_with ((go_at_call 30); (with_reducible refine hih.mono ?_); rintro e w2 ⟨rfl, b2⟩)
              go_ret
              exact boolBelow_of (by rw [HG.out, HA.out, HS.out]; simp) (BW.trans (b2.mono BW.size))
            | true =>
              rw [hc] at hih HS
              clear hc
              go_wp2_with ((go_at_call 30); (with_reducible refine hih.mono ?_); rintro e w2 ⟨rfl, b2⟩)
              go_roundw
              case rel => exact ⟨q + 1, by omega, by go_num, hbw.trans (b2.mono hws), by rw [HA.out, HS.out]; rfl⟩
              case measure => simp [intOf]; omega
          · have HE := Lib.hid (show chkAt (d + 1) (.mk 7 s ns ps) = (vbl s).isEmpty by rw [HG.out, HA.out, List.drop_of_length_le (by omega)]; simp)
            rcases str_cases s with rfl | ⟨he, HZ⟩
            · go_wp2_with fail
              go_ret
              exact boolBelow_of (by rw [HE.out]; rfl) BW
            · go_wp2_with fail
              go_ret
              exact boolBelow_of (by rw [HE.out, HZ.out]) BW
    by_cases h8 : k = 8
    · subst h8
      by_cases hn0 : ns.length = ps.length
      · have e0 : ((ns.length : Int) != (ps.length : Int)) = false := by simp; omega
        have HL := Lib.hid hn0
        clear hn0
        have hnm := fun W (hb : Below w.heap.size w W) => refnames_any B an cn ns W z2 (hs.below (hb.mono hB))
        cases hok : nmOk ns with
        | false =>
          rw [hok] at hnm
          have HF := Lib.hid (show false = chkAt (d + 1) (.mk 8 s ns ps) by
            unfold chkAt
            rw [self_obj (x := .mk 8 s ns ps) rfl]
            show false = ((_ && _ && nmOk ns) && _)
            rw [hok]
            simp)
          clear hok
          go_enter Tryd.func30, Tryd.ntmps30
          go_wp2_with (first | ((go_at_call 10); (with_reducible refine (HN _).mono ?_); rintro e w1 ⟨rfl, rfl⟩) | ((go_at_call 43); (with_reducible refine (hnm _ (hbA _)).mono ?_); rintro e w2 ⟨rfl, m, rfl⟩))
          go_ret
          exact boolBelow_of HF.out ((hbA _).trans ((drewN_below _ _).mono (by simp)))
        | true =>
          rw [hok] at hnm
          have HG := Lib.hid (show chkAt (d + 1) (.mk 8 s ns ps) = ((vbl s).isEmpty && ps.all (chkAt d)) by
            unfold chkAt
            rw [self_obj (x := .mk 8 s ns ps) rfl]
            show ((_ && decide (ns.length = ps.length) && nmOk ns) && _) = _
            rw [hok, decide_eq_true HL.out]
            simp
            rfl)
          clear hok
          go_enter Tryd.func30, Tryd.ntmps30
          go_wp2_with (first | ((go_at_call 10); (with_reducible refine (HN _).mono ?_); rintro e w1 ⟨rfl, rfl⟩) | ((go_at_call 43); (with_reducible refine (hnm _ (hbA _)).mono ?_); rintro e w2 ⟨rfl, m, rfl⟩))

          obtain ⟨W1, hW1⟩ : ∃ W1, W1 = w.alloc (.cells #[.int .i64 8, .string s, .slice an ns.length cn, .slice ap ps.length cp] 25) := ⟨_, rfl⟩
          rw [← hW1]
          have B1 : Below w.heap.size w W1 := by rw [hW1]; exact hbA _
          have s1 : W1.heap.size = w.heap.size + 1 := by rw [hW1]; simp
          have c1 : W1.cell? ⟨w.heap.size, 3, none⟩ = some (.slice ap ps.length cp) := by rw [hW1]; go_simp
          have c0 : W1.cell? ⟨w.heap.size, 1, none⟩ = some (.string s) := by rw [hW1]; go_simp
          clear hW1 hbA
          clear e0
          go_loopw [7] (fun i wr => ChkRel d ps W1 i wr) (fun i _ => ps.length - (intOf i).toNat)
          case atStart => exact ⟨0, Nat.zero_le _, rfl, drewN_below _ _, rfl⟩
          case round =>
            obtain ⟨q, hk, rfl, hbw, hall⟩ := hrel
            have HA := Lib.hid hall
            clear hall
            have c2 : wr.cell? ⟨w.heap.size, 3, none⟩ = some (.slice ap ps.length cp) := (hbw.cell (p := ⟨w.heap.size, 3, none⟩) (by show w.heap.size < _; omega)).trans c1
            have c3 : wr.cell? ⟨w.heap.size, 1, none⟩ = some (.string s) := (hbw.cell (p := ⟨w.heap.size, 1, none⟩) (by show w.heap.size < _; omega)).trans c0
            have hws := hbw.size
            have BW := B1.trans (hbw.mono B1.size)
            by_cases hlt : q < ps.length
            · have HS := Lib.hid (all_step (chkAt d) ps q hlt)
              obtain ⟨b, off, y, an', cn', ap', cp', HY, rfl, hb, hRr, g0, g1, g2, g3⟩ := hr.elem hlt (BW.mono hB)
              rw [HY.out] at HS
              clear hr HY c1 c0
              have hih := HI.out (by omega) (D - 1) HD.out B n y _ wr (by omega) hRr
              cases hc : chkAt d y with
              | false =>
                rw [hc] at hih HS
                clear hc
                go_wp2_with ((go_at_call 30); (with_reducible refine hih.mono ?_); rintro e w2 ⟨rfl, b2⟩)
                go_ret
                exact boolBelow_of (by rw [HG.out, HA.out, HS.out]; simp) (BW.trans (b2.mono BW.size))
              | true =>
                rw [hc] at hih HS
                clear hc
                go_wp2_with ((go_at_call 30); (with_reducible refine hih.mono ?_); rintro e w2 ⟨rfl, b2⟩)
                go_roundw
                case rel => exact ⟨q + 1, by omega, by go_num, hbw.trans (b2.mono hws), by rw [HA.out, HS.out]; rfl⟩
                case measure => simp [intOf]; omega
            · have HE := Lib.hid (show chkAt (d + 1) (.mk 8 s ns ps) = (vbl s).isEmpty by rw [HG.out, HA.out, List.drop_of_length_le (by omega)]; simp)
              rcases str_cases s with rfl | ⟨he, HZ⟩
              · go_wp2_with fail
                go_ret
                exact boolBelow_of (by rw [HE.out]; rfl) BW
              · go_wp2_with fail
                go_ret
                exact boolBelow_of (by rw [HE.out, HZ.out]) BW
      · have e0 : ((ns.length : Int) != (ps.length : Int)) = true := by simp; omega
        have HF := Lib.hid (show false = chkAt (d + 1) (.mk 8 s ns ps) by
          unfold chkAt
          rw [self_obj (x := .mk 8 s ns ps) rfl]
          show false = ((_ && decide (ns.length = ps.length) && nmOk ns) && _)
          rw [decide_eq_false hn0]
          simp)
        clear hn0
        go_enter Tryd.func30, Tryd.ntmps30
        go_wp2_with ((go_at_call 10); (with_reducible refine (HN _).mono ?_); rintro e w1 ⟨rfl, rfl⟩)
        go_ret
        exact boolBelow_of HF.out (hbA _)
    by_cases h9 : k < 7
    · have e9 : decide (k < 7) = true := decide_eq_true h9
      by_cases hp0 : 0 < ps.length
      · have e0 : decide ((0 : Int) < ps.length) = true := decide_eq_true (by omega)
        have HF := Lib.hid (chk_ps (d := d) (s := s) (ns := ns) h7 h8 hp0)
        clear h7 h8 h9
        go_enter Tryd.func30, Tryd.ntmps30
        go_wp2_with ((go_at_call 10); (with_reducible refine (HN _).mono ?_); rintro e w1 ⟨rfl, rfl⟩)
        go_ret
        exact boolBelow_of HF.out.symm (hbA _)
      · have e0 : decide ((0 : Int) < ps.length) = false := decide_eq_false (by omega)
        by_cases hn0 : 0 < ns.length
        · have e1 : decide ((0 : Int) < ns.length) = true := decide_eq_true (by omega)
          have HF := Lib.hid (chk_ns (d := d) (s := s) (ps := ps) h7 h8 hn0)
          clear h7 h8 h9
          go_enter Tryd.func30, Tryd.ntmps30
          go_wp2_with ((go_at_call 10); (with_reducible refine (HN _).mono ?_); rintro e w1 ⟨rfl, rfl⟩)
          go_ret
          exact boolBelow_of HF.out.symm (hbA _)
        · have e1 : decide ((0 : Int) < ns.length) = false := decide_eq_false (by omega)
          have HC := Lib.hid (show chkAt (d + 1) (.mk k s ns ps) = leafB k (vbl s) by
            obtain rfl : ns = [] := List.eq_nil_of_length_eq_zero (by omega)
            obtain rfl : ps = [] := List.eq_nil_of_length_eq_zero (by omega)
            exact chk_leaf h7 h8)
          by_cases h1 : k = 1
          · subst h1
            go_enter Tryd.func30, Tryd.ntmps30
            go_wp2_with ((go_at_call 10); (with_reducible refine (HN _).mono ?_); rintro e w1 ⟨rfl, rfl⟩)
            go_ret
            exact boolBelow_of (by rw [HC.out]; show _ = (vbl s).isEmpty; first | exact empty_eq s | exact empty_eq' s) (hbA _)
          by_cases h2 : k = 2
          · subst h2
            go_enter Tryd.func30, Tryd.ntmps30
            go_wp2_with ((go_at_call 10); (with_reducible refine (HN _).mono ?_); rintro e w1 ⟨rfl, rfl⟩)
            · go_ret
              exact boolBelow_of (by rw [HC.out]; exact boolB_true ‹_›) (hbA _)
            · go_ret
              exact boolBelow_of (by rw [HC.out]; exact boolB_eq s) (hbA _)
          by_cases h3 : k = 3
          · subst h3
            cases ho : numOk (vbl s) with
            | false =>
              rw [ho] at HN
              have HL := Lib.hid (show false = leafB 3 (vbl s) by unfold leafB; simp [ho])
              clear ho
              go_enter Tryd.func30, Tryd.ntmps30
              go_wp2_with ((go_at_call 10); (with_reducible refine (HN _).mono ?_); rintro e w1 ⟨rfl, rfl⟩)
              go_ret
              exact boolBelow_of (by rw [HC.out]; exact HL.out) (hbA _)
            | true =>
              rw [ho] at HN
              have HL := Lib.hid (show numWhole (vbl s) = leafB 3 (vbl s) by unfold leafB; simp [ho])
              clear ho
              go_enter Tryd.func30, Tryd.ntmps30
              go_wp2_with ((go_at_call 10); (with_reducible refine (HN _).mono ?_); rintro e w1 ⟨rfl, rfl⟩)
              go_ret
              exact boolBelow_of (by rw [HC.out]; exact HL.out) (hbA _)
          by_cases h4 : k = 4
          · subst h4
            cases ho : numOk (vbl s) with
            | false =>
              rw [ho] at HN
              have HL := Lib.hid (show false = leafB 4 (vbl s) by unfold leafB; simp [ho])
              clear ho
              go_enter Tryd.func30, Tryd.ntmps30
              go_wp2_with ((go_at_call 10); (with_reducible refine (HN _).mono ?_); rintro e w1 ⟨rfl, rfl⟩)
              go_ret
              exact boolBelow_of (by rw [HC.out]; exact HL.out) (hbA _)
            | true =>
              rw [ho] at HN
              have HL := Lib.hid (show (!numWhole (vbl s)) = leafB 4 (vbl s) by unfold leafB; simp [ho])
              clear ho
              go_enter Tryd.func30, Tryd.ntmps30
              go_wp2_with ((go_at_call 10); (with_reducible refine (HN _).mono ?_); rintro e w1 ⟨rfl, rfl⟩)
              go_ret
              exact boolBelow_of (by rw [HC.out]; exact HL.out) (hbA _)
          have f1 : (k == 1) = false := by simpa using h1
          have f2 : (k == 2) = false := by simpa using h2
          have f3 : (k == 3) = false := by simpa using h3
          have f4 : (k == 4) = false := by simpa using h4
          have f7 : (k == 7) = false := by simpa using h7
          have f8 : (k == 8) = false := by simpa using h8
          by_cases h5 : k = 5
          · subst h5
            have HV : ∀ W, Calls Tryd.prog 42 #[.string s] W fun e w' => e = .returned (.bool (Lib.validD (vbl s))) ∧ W = w' := fun W => refValid_any s W (by omega)
            go_enter Tryd.func30, Tryd.ntmps30
            go_wp2_with (first | ((go_at_call 10); (with_reducible refine (HN _).mono ?_); rintro e w1 ⟨rfl, rfl⟩) | ((go_at_call 42); (with_reducible refine (HV _).mono ?_); rintro e w2 ⟨rfl, rfl⟩))
            go_ret
            exact boolBelow_of (by rw [HC.out]; rfl) (hbA _)
          · have f5 : (k == 5) = false := by simpa using h5
            have HF := Lib.hid (show false = leafB k (vbl s) by rw [leaf_none (by omega)])
            clear h1 h2 h3 h4 h5 h7 h8 h9
            go_enter Tryd.func30, Tryd.ntmps30
            go_wp2_with ((go_at_call 10); (with_reducible refine (HN _).mono ?_); rintro e w1 ⟨rfl, rfl⟩)
            go_ret
            exact boolBelow_of (by rw [HC.out]; exact HF.out) (hbA _)
    · have e9 : decide (k < 7) = false := decide_eq_false h9
      have f1 : (k == 1) = false := by simp; omega
      have f2 : (k == 2) = false := by simp; omega
      have f3 : (k == 3) = false := by simp; omega
      have f4 : (k == 4) = false := by simp; omega
      have f5 : (k == 5) = false := by simp; omega
      have f7 : (k == 7) = false := by simpa using h7
      have f8 : (k == 8) = false := by simpa using h8
      have HF := Lib.hid (show false = chkAt (d + 1) (.mk k s ns ps) by
        unfold chkAt
        rw [self_leaf (x := .mk k s ns ps) h7 h8]
        show false = ((_ && leafB k (vbl s)) && _)
        rw [leaf_none (by omega)]
        simp)
      clear h7 h8 h9
      go_enter Tryd.func30, Tryd.ntmps30
      go_wp2_with ((go_at_call 10); (with_reducible refine (HN _).mono ?_); rintro e w1 ⟨rfl, rfl⟩)
      go_ret
      exact boolBelow_of HF.out (hbA _)

set_option maxHeartbeats 400000 in
theorem refCheck_any (B n : Nat) (x : JV) (v : Value) (w : World) (hB : B ≤ w.heap.size) (h : Rd w B n x v) :
    Calls Tryd.prog 14 #[v] w (BoolBelow (chkAt 12 x) w) := by
  have hc := fun W (hb : Below w.heap.size w W) => refcheck_any 12 (by omega) 12 rfl B n x v W (Nat.le_trans hB hb.size) (h.below (hb.mono hB))
  have hbA : ∀ o, Below w.heap.size w (w.alloc o) := fun o => (Below.refl _ w).alloc (Nat.le_refl _) o
  obtain ⟨an, cn, ap, cp, rfl⟩ := h.shape
  go_enter Tryd.func14, Tryd.ntmps14
  go_wp2_with ((go_at_call 30); (with_reducible refine (hc _ (hbA _)).mono ?_); rintro e w2 ⟨rfl, b2⟩)
  go_ret
  exact boolBelow_of rfl ((hbA _).trans (b2.mono (by simp)))

end Go.Proofs.YthmoadkkadlefaaDoor
