/-
  What jval.checkLeaf, checkSelf, checkAt and Check answer.
-/
import Derived.Test.YthmoadkkadlefaaDoorChkN
import Derived.Test.YthmoadkkadlefaaDoorNum
namespace Go.Proofs.YthmoadkkadlefaaDoor
open Go.RowKit

def boolB (l : List UInt8) : Bool := l == [116, 114, 117, 101] || l == [102, 97, 108, 115, 101]
def leafB (k : Int) (l : List UInt8) : Bool :=
  if k = 1 then l.isEmpty else if k = 2 then boolB l else if k = 3 then numOk l && numWhole l else if k = 4 then numOk l && !numWhole l else if k = 5 then Lib.validD l else false

theorem empty_eq (s : ByteArray) : (s.toList == []) = (vbl s).isEmpty := by
  rw [Lib.toList_data]; unfold vbl; cases s.data.toList <;> rfl
theorem empty_eq' (s : ByteArray) : s.toList.isEmpty = (vbl s).isEmpty := by
  rw [Lib.toList_data]; rfl
theorem boolB_true {s : ByteArray} (h : s.toList = [116, 114, 117, 101]) : true = boolB (vbl s) := by
  rw [Lib.toList_data] at h; unfold boolB vbl; rw [h]; rfl
theorem boolB_eq (s : ByteArray) : (s.toList == [116, 114, 117, 101] || s.toList == [102, 97, 108, 115, 101]) = boolB (vbl s) := by
  rw [Lib.toList_data]; rfl

def BoolBelow (b : Bool) (w : World) (e : Ending) (w' : World) : Prop := e = .returned (.bool b) ∧ Below w.heap.size w w'
theorem boolBelow_of {a b : Bool} {w w' : World} (h : a = b) (hb : Below w.heap.size w w') : BoolBelow b w (.returned (.bool a)) w' := by subst h; exact ⟨rfl, hb⟩

theorem leaf_other {k : Int} (h1 : k ≠ 1) (h2 : k ≠ 2) (h3 : k ≠ 3) (h4 : k ≠ 4) (l : List UInt8) : leafB k l = if k = 5 then Lib.validD l else false := by
  unfold leafB; rw [if_neg h1, if_neg h2, if_neg h3, if_neg h4]

set_option maxHeartbeats 400000 in
theorem checkLeaf_any (k : Int) (s : ByteArray) (w : World) :
    Calls Tryd.prog 55 #[.int .i64 k, .string s] w (BoolBelow (leafB k (vbl s)) w) := by
  by_cases h1 : k = 1
  · subst h1
    go_enter Tryd.func55, Tryd.ntmps55
    go_wp2_with fail
    go_ret
    exact boolBelow_of (by show _ = (vbl s).isEmpty; first | exact empty_eq s | exact empty_eq' s) (Below.refl _ _)
  by_cases h2 : k = 2
  · subst h2
    go_enter Tryd.func55, Tryd.ntmps55
    go_wp2_with fail
    · go_ret
      exact boolBelow_of (boolB_true ‹_›) (Below.refl _ _)
    · go_ret
      exact boolBelow_of (boolB_eq s) (Below.refl _ _)
  by_cases h3 : k = 3
  · subst h3
    have HN : ∀ W, Calls Tryd.prog 9 #[.string s] W (NumIs (vbl s) W) := fun W => number_any s W
    cases ho : numOk (vbl s) with
    | false =>
      have HL := Lib.hid (show false = leafB 3 (vbl s) by unfold leafB; simp [ho])
      go_enter Tryd.func55, Tryd.ntmps55
      go_wp2_with ((go_at_call 9); (refine (HN _).mono ?_); rintro e w1 ⟨rfl, b1⟩)
      go_ret
      exact boolBelow_of HL.out b1
    | true =>
      have HL := Lib.hid (show numWhole (vbl s) = leafB 3 (vbl s) by unfold leafB; simp [ho])
      go_enter Tryd.func55, Tryd.ntmps55
      go_wp2_with ((go_at_call 9); (refine (HN _).mono ?_); rintro e w1 ⟨rfl, b1⟩)
      go_ret
      exact boolBelow_of HL.out b1
  by_cases h4 : k = 4
  · subst h4
    have HN : ∀ W, Calls Tryd.prog 9 #[.string s] W (NumIs (vbl s) W) := fun W => number_any s W
    cases ho : numOk (vbl s) with
    | false =>
      have HL := Lib.hid (show false = leafB 4 (vbl s) by unfold leafB; simp [ho])
      go_enter Tryd.func55, Tryd.ntmps55
      go_wp2_with ((go_at_call 9); (refine (HN _).mono ?_); rintro e w1 ⟨rfl, b1⟩)
      go_ret
      exact boolBelow_of HL.out b1
    | true =>
      cases hw : numWhole (vbl s) with
      | false =>
        have HL := Lib.hid (show true = leafB 4 (vbl s) by unfold leafB; simp [ho, hw])
        go_enter Tryd.func55, Tryd.ntmps55
        go_wp2_with ((go_at_call 9); (refine (HN _).mono ?_); rintro e w1 ⟨rfl, b1⟩)
        go_ret
        exact boolBelow_of HL.out b1
      | true =>
        have HL := Lib.hid (show false = leafB 4 (vbl s) by unfold leafB; simp [ho, hw])
        go_enter Tryd.func55, Tryd.ntmps55
        go_wp2_with ((go_at_call 9); (refine (HN _).mono ?_); rintro e w1 ⟨rfl, b1⟩)
        go_ret
        exact boolBelow_of HL.out b1
  have HL := Lib.hid (leaf_other h1 h2 h3 h4 (vbl s))
  have e1 : (k == 1) = false := by simpa using h1
  have e2 : (k == 2) = false := by simpa using h2
  have e3 : (k == 3) = false := by simpa using h3
  have e4 : (k == 4) = false := by simpa using h4
  clear h1 h2 h3 h4
  by_cases h5 : k = 5
  · subst h5
    have HV : ∀ W, Calls Tryd.prog 58 #[.string s] W fun e w' => e = .returned (.bool (Lib.validD (vbl s))) ∧ Below W.heap.size W w' := fun W => valid_any s W
    go_enter Tryd.func55, Tryd.ntmps55
    go_wp2_with ((go_at_call 58); (refine (HV _).mono ?_); rintro e w1 ⟨rfl, b1⟩)
    go_ret
    exact boolBelow_of (by rw [HL.out]; rfl) b1
  · have e5 : (k == 5) = false := by simpa using h5
    have HF := Lib.hid (show false = leafB k (vbl s) by rw [HL.out, if_neg h5])
    clear h5
    go_enter Tryd.func55, Tryd.ntmps55
    go_wp2_with fail
    go_ret
    exact boolBelow_of HF.out (Below.refl _ _)

theorem str_cases (s : ByteArray) : s = ⟨#[]⟩ ∨ ((s.toList == []) = false ∧ Hid ((vbl s).isEmpty = false)) := by
  cases hs : vbl s with
  | nil => exact .inl (vbl_inj (b := ⟨#[]⟩) hs)
  | cons b r => exact .inr ⟨by rw [Lib.toList_data]; show (vbl s == []) = false; rw [hs]; rfl, Lib.hid rfl⟩
theorem len_zero {α : Type} (l : List α) : ((l.length : Int) == 0) = l.isEmpty := by
  cases l with
  | nil => rfl
  | cons a r => simp; omega

/-- A value alone, not its parts. -/
def selfB (x : JV) : Bool :=
  if x.k = 7 then (vbl x.s).isEmpty && x.ns.isEmpty else if x.k = 8 then (vbl x.s).isEmpty && decide (x.ns.length = x.ps.length) && nmOk x.ns else x.ns.isEmpty && x.ps.isEmpty && leafB x.k (vbl x.s)

theorem self_list {x : JV} (h : x.k = 7) : selfB x = ((vbl x.s).isEmpty && x.ns.isEmpty) := by unfold selfB; rw [if_pos h]
theorem self_obj {x : JV} (h : x.k = 8) : selfB x = ((vbl x.s).isEmpty && decide (x.ns.length = x.ps.length) && nmOk x.ns) := by unfold selfB; rw [if_neg (by omega), if_pos h]
theorem self_leaf {x : JV} (h : x.k ≠ 7) (h' : x.k ≠ 8) : selfB x = (x.ns.isEmpty && x.ps.isEmpty && leafB x.k (vbl x.s)) := by unfold selfB; rw [if_neg h, if_neg h']

set_option maxHeartbeats 1000000 in
set_option maxRecDepth 100000 in
theorem checkSelf_any (B n : Nat) (x : JV) (v : Value) (w : World) (hB : B ≤ w.heap.size) (h : Rd w B n x v) :
    Calls Tryd.prog 41 #[v] w (BoolBelow (selfB x) w) := by
  match n, h with
  | n + 1, h =>
  obtain ⟨an, cn, ap, cp, rfl, ⟨z1, z2, z3, z4, z5⟩, hs, hr⟩ := h
  obtain ⟨k, s, ns, ps⟩ := x
  simp only [JV.k, JV.s, JV.ns, JV.ps] at *
  have hbA : ∀ o, Below w.heap.size w (w.alloc o) := fun o => (Below.refl _ w).alloc (Nat.le_refl _) o
  by_cases h7 : k = 7
  · subst h7
    have HS := Lib.hid (self_list (x := .mk 7 s ns ps) rfl)
    rcases str_cases s with rfl | ⟨he, HE⟩
    · go_enter Tryd.func41, Tryd.ntmps41
      go_wp2_with fail
      go_ret
      exact boolBelow_of (by rw [HS.out]; exact len_zero ns) (hbA _)
    · go_enter Tryd.func41, Tryd.ntmps41
      go_wp2_with fail
      go_ret
      exact boolBelow_of (by rw [HS.out]; show false = ((vbl s).isEmpty && _); rw [HE.out]; rfl) (hbA _)
  by_cases h8 : k = 8
  · subst h8
    have HS := Lib.hid (self_obj (x := .mk 8 s ns ps) rfl)
    rcases str_cases s with rfl | ⟨he, HE⟩
    · by_cases hl : ns.length = ps.length
      · have hl' : ((ns.length : Int) == (ps.length : Int)) = true := by simp; omega
        have HF := Lib.hid (show nmOk ns = selfB (.mk 8 ⟨#[]⟩ ns ps) by rw [HS.out]; show _ = (true && decide (ns.length = ps.length) && nmOk ns); rw [decide_eq_true hl]; rfl)
        have hcn := fun W (hb : Below w.heap.size w W) => checkNames_any B an cn ns W (Nat.le_trans hB hb.size) z2 (hs.below (hb.mono hB))
        have HL := Lib.hid hl
        clear hl
        go_enter Tryd.func41, Tryd.ntmps41
        go_wp2_with ((go_at_call 54); (refine (hcn _ (hbA _)).mono ?_); rintro e w1 ⟨rfl, b1⟩)
        go_ret
        exact boolBelow_of HF.out ((hbA _).trans (b1.mono (by simp)))
      · have hl' : ((ns.length : Int) == (ps.length : Int)) = false := by simp; omega
        have HF := Lib.hid (show false = selfB (.mk 8 ⟨#[]⟩ ns ps) by rw [HS.out]; show _ = (true && decide (ns.length = ps.length) && nmOk ns); rw [decide_eq_false hl]; rfl)
        go_enter Tryd.func41, Tryd.ntmps41
        go_wp2_with fail
        go_ret
        exact boolBelow_of HF.out (hbA _)
    · go_enter Tryd.func41, Tryd.ntmps41
      go_wp2_with fail
      go_ret
      exact boolBelow_of (by rw [HS.out]; show false = ((vbl s).isEmpty && _ && _); rw [HE.out]; rfl) (hbA _)
  have HS := Lib.hid (self_leaf (x := .mk k s ns ps) h7 h8)
  have e7 : (k == 7) = false := by simpa using h7
  have e8 : (k == 8) = false := by simpa using h8
  clear h7 h8
  cases ns with
  | cons n1 nr =>
    have HF := Lib.hid (show false = selfB (.mk k s (n1 :: nr) ps) by rw [HS.out]; rfl)
    have hz : (((n1 :: nr).length : Int) == 0) = false := by simp; omega
    generalize hnl : (n1 :: nr).length = nl at *
    clear hnl
    go_enter Tryd.func41, Tryd.ntmps41
    go_wp2_with fail
    go_ret
    exact boolBelow_of HF.out (hbA _)
  | nil =>
    cases ps with
    | cons p1 pr =>
      have HF := Lib.hid (show false = selfB (.mk k s [] (p1 :: pr)) by rw [HS.out]; rfl)
      have hz : (((p1 :: pr).length : Int) == 0) = false := by simp; omega
      generalize hnl : (p1 :: pr).length = nl at *
      clear hnl
      go_enter Tryd.func41, Tryd.ntmps41
      go_wp2_with fail
      go_ret
      exact boolBelow_of HF.out (hbA _)
    | nil =>
      have HF := Lib.hid (show leafB k (vbl s) = selfB (.mk k s [] []) by rw [HS.out]; rfl)
      go_enter Tryd.func41, Tryd.ntmps41
      go_wp2_with ((go_at_call 55); (refine (checkLeaf_any _ _ _).mono ?_); rintro e w1 ⟨rfl, b1⟩)
      go_ret
      exact boolBelow_of HF.out ((hbA _).trans (b1.mono (by simp)))

/-- A value of JSON, at most so deep. -/
def chkAt : Nat → JV → Bool
  | 0, _ => false
  | m + 1, x => selfB x && x.ps.all (chkAt m)

def ChkRel (m : Nat) (ps : List JV) (w : World) (i : Value) (wr : World) : Prop :=
  ∃ k : Nat, k ≤ ps.length ∧ i = .int .i64 k ∧ Below w.heap.size w wr ∧ ps.all (chkAt m) = (ps.drop k).all (chkAt m)

theorem all_step {α : Type} (f : α → Bool) (l : List α) (k : Nat) (h : k < l.length) : (l.drop k).all f = (f l[k] && (l.drop (k + 1)).all f) := by
  rw [List.drop_eq_getElem_cons h, List.all_cons]

set_option maxHeartbeats 1000000 in
set_option maxRecDepth 100000 in
theorem checkAt_any : ∀ (m : Nat), m ≤ 12 → ∀ (B n : Nat) (x : JV) (v : Value) (w : World), B ≤ w.heap.size → Rd w B n x v →
    Calls Tryd.prog 29 #[v, .int .i64 (13 - (m : Int))] w (BoolBelow (chkAt m x) w) := by
  intro m
  induction m with
  | zero =>
    intro _ B n x v w hB h
    match n, h with
    | n + 1, h =>
    obtain ⟨an, cn, ap, cp, rfl, hz, hs, hr⟩ := h
    go_enter Tryd.func29, Tryd.ntmps29
    go_wp2_with fail
    go_ret
    exact boolBelow_of rfl ((Below.refl _ w).alloc (Nat.le_refl _) _)
  | succ m ih =>
    intro hm B n x v w hB h
    have hself := fun W (hb : Below w.heap.size w W) => checkSelf_any B n x v W (Nat.le_trans hB hb.size) (h.below (hb.mono hB))
    match n, h with
    | n + 1, h =>
    obtain ⟨an, cn, ap, cp, rfl, ⟨z1, z2, z3, z4, z5⟩, hs, hr⟩ := h
    have hd : decide ((12 : Int) < 13 - ((m + 1 : Nat) : Int)) = false := by simp; omega
    have hbA : ∀ o, Below w.heap.size w (w.alloc o) := fun o => (Below.refl _ w).alloc (Nat.le_refl _) o
    have HU : Hid (chkAt (m + 1) x = (selfB x && x.ps.all (chkAt m))) := Lib.hid rfl
    have e1 : (13 - ((m + 1 : Nat) : Int)) + 1 = 13 - (m : Int) := by omega
    generalize hdep : (13 - ((m + 1 : Nat) : Int)) = dep at *
    have hdl : 0 ≤ dep ∧ dep ≤ 12 := by omega
    obtain ⟨hd0, hd1⟩ := hdl
    have HD := Lib.hid hdep
    clear hdep
    cases hsf : selfB x with
    | false =>
      rw [hsf] at hself
      go_enter Tryd.func29, Tryd.ntmps29
      go_wp2_with ((go_at_call 41); (refine (hself _ (hbA _)).mono ?_); rintro e w1 ⟨rfl, b1⟩)
      go_ret
      exact boolBelow_of (by rw [HU.out, hsf]; rfl) ((hbA _).trans (b1.mono (by simp)))
    | true =>
      rw [hsf] at hself
      have HV : Hid (chkAt (m + 1) x = x.ps.all (chkAt m)) := Lib.hid (by rw [HU.out, hsf]; rfl)
      clear HU
      have E1 := Lib.hid e1
      clear e1
      go_enter Tryd.func29, Tryd.ntmps29
      go_wp2_with ((go_at_call 41); (refine (hself _ (hbA _)).mono ?_); rintro e w1 ⟨rfl, b1⟩; have hb1 := (hbA (.cells #[.int .i64 x.k, .string x.s, .slice an x.ns.length cn, .slice ap x.ps.length cp] 25)).trans (b1.mono (by simp)); have hx1 := b1.cell (p := ⟨w.heap.size, 3, none⟩) (by simp))
      go_loopw [17] (fun i wr => ChkRel m x.ps w i wr) (fun i _ => x.ps.length - (intOf i).toNat)
      case atStart => exact ⟨0, Nat.zero_le _, rfl, hb1, rfl⟩
      case round =>
        obtain ⟨k, hk, rfl, hbw, hall⟩ := hrel
        have HA := Lib.hid hall
        clear hall
        by_cases hlt : k < x.ps.length
        · have HS := Lib.hid (all_step (chkAt m) x.ps k hlt)
          obtain ⟨b, off, y, an', cn', ap', cp', HY, rfl, hb, hRr, g0, g1, g2, g3⟩ := hr.elem hlt (hbw.mono hB)
          rw [HY.out] at HS
          clear hself b1 hx1 hs hr h hb1 hsf HY
          have hws := hbw.size
          have hih := fun W (hb : Below wr.heap.size wr W) => ih (by omega) B n y _ W (Nat.le_trans hB (Nat.le_trans hws hb.size)) (hRr.below (hb.mono (by omega)))
          have hbA2 : ∀ o, Below wr.heap.size wr (wr.alloc o) := fun o => (Below.refl _ wr).alloc (Nat.le_refl _) o
          clear ih
          rw [← E1.out] at hih
          cases hc : chkAt m y with
          | false =>
            rw [hc] at hih
            go_wp2_with ((go_at_call 29); (refine (hih _ (hbA2 _)).mono ?_); rintro e w2 ⟨rfl, b2⟩)
            go_ret
            exact boolBelow_of (by rw [HV.out, HA.out, HS.out, hc]; rfl) (hbw.trans (((hbA2 _).trans (b2.mono (by simp))).mono hws))
          | true =>
            rw [hc] at hih
            go_wp2_with ((go_at_call 29); (refine (hih _ (hbA2 _)).mono ?_); rintro e w2 ⟨rfl, b2⟩)
            go_roundw
            case rel => exact ⟨k + 1, by omega, by go_num, hbw.trans (((hbA2 _).trans (b2.mono (by simp))).mono hws), by rw [HA.out, HS.out, hc]; rfl⟩
            case measure => simp [intOf]; omega
        · go_wp2_with fail
          go_ret
          exact boolBelow_of (by rw [HV.out, HA.out, List.drop_of_length_le (by omega)]; rfl) hbw

set_option maxHeartbeats 400000 in
theorem check_any (B n : Nat) (x : JV) (v : Value) (w : World) (hB : B ≤ w.heap.size) (h : Rd w B n x v) :
    Calls Tryd.prog 13 #[v] w (BoolBelow (chkAt 12 x) w) := by
  have hc := fun W (hb : Below w.heap.size w W) => checkAt_any 12 (by omega) B n x v W (Nat.le_trans hB hb.size) (h.below (hb.mono hB))
  have hbA : ∀ o, Below w.heap.size w (w.alloc o) := fun o => (Below.refl _ w).alloc (Nat.le_refl _) o
  obtain ⟨an, cn, ap, cp, rfl⟩ := h.shape
  go_enter Tryd.func13, Tryd.ntmps13
  go_wp2_with ((go_at_call 29); (refine (hc _ (hbA _)).mono ?_); rintro e w2 ⟨rfl, b2⟩)
  go_ret
  exact boolBelow_of rfl ((hbA _).trans (b2.mono (by simp)))

end Go.Proofs.YthmoadkkadlefaaDoor
