/-
  value's reader: what a token is by itself; a variable.
-/
import Derived.Test.YtkfllppggjhhmaaGreatDoorMV2
import Derived.Test.YtkfllppggjhhmaaGreatDoorMPm
import Derived.Test.YtkfllppggjhhmaaGreatDoorMLetters
import Derived.BigQuiet
namespace Go.Proofs.YtkfllppggjhhmaaGreatDoor
open Go.RowKit

theorem vtoList (s : ByteArray) : s.toList = vbl s := by rw [Lib.toList_data]; rfl
theorem toList_no {s : ByteArray} {m : List UInt8} (h : vbl s ≠ m) : (s.toList == m) = false := by
  rw [beq_eq_false_iff_ne, vtoList]; exact h
theorem toList_yes {s : ByteArray} {m : List UInt8} (h : vbl s = m) : (s.toList == m) = true := by
  rw [beq_iff_eq, vtoList]; exact h

/-- A leaf as it lies. -/
def leafOf (x : JV) : Value := leaf x.k x.s

set_option maxHeartbeats 1000000 in
theorem vword_any (s : ByteArray) (w : World) : Calls Tryz.prog 333 #[.string s] w fun e w' => e = .returned (leafOf (wordV (vbl s))) ∧ Below w.heap.size w w' := by
  have hbA : ∀ o, Below w.heap.size w (w.alloc o) := fun o => (Below.refl _ w).alloc (Nat.le_refl _) o
  by_cases h1 : vbl s = nullS
  · have e1 := toList_yes h1
    have HU := Lib.hid (show wordV (vbl s) = vx 1 [] by unfold wordV; rw [if_pos h1])
    unfold nullS at e1
    clear h1
    go_enter Tryz.func333, Tryz.ntmps333
    go_wp2_with fail
    refine bodyPost_ret (v := leaf 1 ⟨#[]⟩) (by simp [results, Tryz.results333, go_sem, leaf]) rfl ?_
    rw [HU.out]
    exact ⟨rfl, hbA _⟩
  · have e1 := toList_no h1
    unfold nullS at e1
    by_cases h2 : vbl s = trueS
    · have e2 := toList_yes h2
      have HU := Lib.hid (show wordV (vbl s) = vx 2 (vbl s) by unfold wordV; rw [if_neg h1, if_pos h2])
      unfold trueS at e2
      clear h1 h2
      go_enter Tryz.func333, Tryz.ntmps333
      go_wp2_with fail
      refine bodyPost_ret (v := leaf 2 s) (by simp [results, Tryz.results333, go_sem, leaf]) rfl ?_
      rw [HU.out]
      exact ⟨rfl, hbA _⟩
    · have e2 := toList_no h2
      unfold trueS at e2
      by_cases h3 : vbl s = falseS
      · have e3 := toList_yes h3
        have HU := Lib.hid (show wordV (vbl s) = vx 2 (vbl s) by unfold wordV; rw [if_neg h1, if_neg h2, if_pos h3])
        unfold falseS at e3
        clear h1 h2 h3
        go_enter Tryz.func333, Tryz.ntmps333
        go_wp2_with fail
        refine bodyPost_ret (v := leaf 2 s) (by simp [results, Tryz.results333, go_sem, leaf]) rfl ?_
        rw [HU.out]
        exact ⟨rfl, hbA _⟩
      · have e3 := toList_no h3
        have HU := Lib.hid (show wordV (vbl s) = vx 6 (vbl s) by unfold wordV; rw [if_neg h1, if_neg h2, if_neg h3])
        unfold falseS at e3
        clear h1 h2 h3
        go_enter Tryz.func333, Tryz.ntmps333
        go_wp2_with fail
        refine bodyPost_ret (v := leaf 6 s) (by simp [results, Tryz.results333, go_sem, leaf]) rfl ?_
        rw [HU.out]
        exact ⟨rfl, hbA _⟩

set_option maxHeartbeats 2000000 in
theorem plain_any (t : Tk) (w : World) : Calls Tryz.prog 329 #[.agg #[.int .i64 t.k, .string ⟨t.s.toArray⟩, .int .i64 t.at_]] w fun e w' => e = .returned (leafOf (plainV (strip t))) ∧ Below w.heap.size w w' := by
  have hbA : ∀ o o', Below w.heap.size w ((w.alloc o).alloc o') := fun o o' => ((Below.refl _ w).alloc (Nat.le_refl _) o).alloc (by simp) o'
  by_cases h1 : t.k = 1
  · have k1 : ((t.k : Int) == 1) = true := by rw [beq_iff_eq]; omega
    have HU := Lib.hid (show plainV (strip t) = wordV t.s by unfold plainV; rw [if_pos (show (strip t).1 = 1 from h1)]; rfl)
    have HW := vword_any ⟨t.s.toArray⟩ ((w.alloc (.cells #[.int .i64 t.k, .string ⟨t.s.toArray⟩, .int .i64 t.at_] 150)).alloc (.cells #[.int .i64 0, .string ⟨#[]⟩, .slice none 0 0, .slice none 0 0] 53))
    have hX := Bx.new (w.alloc (.cells #[.int .i64 t.k, .string ⟨t.s.toArray⟩, .int .i64 t.at_] 150))
    have hb0 := hbA (.cells #[.int .i64 t.k, .string ⟨t.s.toArray⟩, .int .i64 t.at_] 150) (.cells #[.int .i64 0, .string ⟨#[]⟩, .slice none 0 0, .slice none 0 0] 53)
    have ev : vbl ⟨t.s.toArray⟩ = t.s := rfl
    rw [ev] at HW
    clear h1 ev
    go_enter Tryz.func329, Tryz.ntmps329
    go_wp2_with fail
    refine HW.mono ?_
    rintro e w1 ⟨rfl, hb⟩
    have hx : Bx w1 (w.heap.size + 1) := by
      have := hX.keep (hb.block _ (by simp))
      simpa using this
    have hb1 : Below w.heap.size w w1 := hb0.trans (hb.mono (by simp; omega))
    obtain ⟨r0, r1, r2, r3, rf⟩ := hx
    have HB := Lib.hid hb1
    clear hb hb0 hb1 hX
    unfold leafOf leaf
    go_wp2_with fail
    refine bodyPost_ret (v := leafOf (wordV t.s)) (by simp [results, Tryz.results329, go_sem, leafOf, leaf, r0, r1, r2, r3]) rfl ?_
    rw [HU.out]
    exact ⟨rfl, below_four HB.out (by omega) _ _ _ _⟩
  · have k1 : ((t.k : Int) == 1) = false := by rw [beq_eq_false_iff_ne]; omega
    by_cases h2 : t.k = 2
    · have k2 : ((t.k : Int) == 2) = true := by rw [beq_iff_eq]; omega
      have HU := Lib.hid (show plainV (strip t) = vx 3 t.s by unfold plainV; rw [if_neg (show ¬ (strip t).1 = 1 from h1), if_pos (show (strip t).1 = 2 from h2)]; rfl)
      clear h1 h2
      go_enter Tryz.func329, Tryz.ntmps329
      go_wp2_with fail
      refine bodyPost_ret (v := leaf 3 ⟨t.s.toArray⟩) (by simp [results, Tryz.results329, go_sem, leaf]) rfl ?_
      rw [HU.out]
      exact ⟨rfl, hbA _ _⟩
    · have k2 : ((t.k : Int) == 2) = false := by rw [beq_eq_false_iff_ne]; omega
      by_cases h3 : t.k = 3
      · have k3 : ((t.k : Int) == 3) = true := by rw [beq_iff_eq]; omega
        have HU := Lib.hid (show plainV (strip t) = vx 4 t.s by unfold plainV; rw [if_neg (show ¬ (strip t).1 = 1 from h1), if_neg (show ¬ (strip t).1 = 2 from h2), if_pos (show (strip t).1 = 3 from h3)]; rfl)
        clear h1 h2 h3
        go_enter Tryz.func329, Tryz.ntmps329
        go_wp2_with fail
        refine bodyPost_ret (v := leaf 4 ⟨t.s.toArray⟩) (by simp [results, Tryz.results329, go_sem, leaf]) rfl ?_
        rw [HU.out]
        exact ⟨rfl, hbA _ _⟩
      · have k3 : ((t.k : Int) == 3) = false := by rw [beq_eq_false_iff_ne]; omega
        by_cases h4 : t.k = 4
        · have k4 : ((t.k : Int) == 4) = true := by rw [beq_iff_eq]; omega
          have HU := Lib.hid (show plainV (strip t) = vx 5 t.s by unfold plainV; rw [if_neg (show ¬ (strip t).1 = 1 from h1), if_neg (show ¬ (strip t).1 = 2 from h2), if_neg (show ¬ (strip t).1 = 3 from h3), if_pos (show (strip t).1 = 4 from h4)]; rfl)
          clear h1 h2 h3 h4
          go_enter Tryz.func329, Tryz.ntmps329
          go_wp2_with fail
          refine bodyPost_ret (v := leaf 5 ⟨t.s.toArray⟩) (by simp [results, Tryz.results329, go_sem, leaf]) rfl ?_
          rw [HU.out]
          exact ⟨rfl, hbA _ _⟩
        · have k4 : ((t.k : Int) == 4) = false := by rw [beq_eq_false_iff_ne]; omega
          have HU := Lib.hid (show plainV (strip t) = vz by unfold plainV; rw [if_neg (show ¬ (strip t).1 = 1 from h1), if_neg (show ¬ (strip t).1 = 2 from h2), if_neg (show ¬ (strip t).1 = 3 from h3), if_neg (show ¬ (strip t).1 = 4 from h4)])
          clear h1 h2 h3 h4
          go_enter Tryz.func329, Tryz.ntmps329
          go_wp2_with fail
          refine bodyPost_ret (v := leaf 0 ⟨#[]⟩) (by simp [results, Tryz.results329, go_sem, leaf]) rfl ?_
          rw [HU.out]
          exact ⟨rfl, hbA _ _⟩

/-- What comes of a call of the reader: the value in new blocks, or none and why; where it stands then. -/
def VIsV (R : Nat) (a : Option Addr) (cap : Nat) (ts : List Tk) (n : Nat) (w : World) (r : VR) (e : Ending) (w' : World) : Prop :=
  NowV R a cap ts w r.2.1 w' ∧ (if r.2.2 = 0 then ∃ v, e = .returned (.tuple #[v, .int .i64 0]) ∧ RdD w' (fun b => w.heap.size ≤ b ∧ b < w'.heap.size) n r.1 v else e = .returned (.tuple #[leaf 0 ⟨#[]⟩, .int .i64 r.2.2]) ∧ r.2.2 ≤ 4)

theorem NowV.four {R : Nat} {a : Option Addr} {cap : Nat} {ts : List Tk} {p0 : Nat} {w W : World} {l : List Sk} (h0 : Rv w R a cap ts p0) {p : Nat} (hl : ahead ts p = l) (hr : Rv W R a cap ts p) (ha : Aw R w.heap.size w W) (c0 c1 c2 c3 : Value) :
    NowV R a cap ts w l ((((W.setCell ⟨w.heap.size, 0, none⟩ c0).setCell ⟨w.heap.size, 1, none⟩ c1).setCell ⟨w.heap.size, 2, none⟩ c2).setCell ⟨w.heap.size, 3, none⟩ c3) := by
  have h1 := h0.lt
  exact ⟨p, hl, hr.four (by omega) (fun g e hp => by have := h0.tokLt g e hp; omega) _ _ _ _, ha.four (Nat.le_refl _) _ _ _ _⟩

set_option maxHeartbeats 2000000 in
theorem variable_any {R : Nat} {a : Option Addr} {cap : Nat} {ts : List Tk} {p : Nat} (n : Nat) (w : World) (h : Rv w R a cap ts p) :
    Calls Tryz.prog 330 #[.pointer (some ⟨R, 0, none⟩)] w (VIsV R a cap ts (n + 1) w (varV (ahead ts p))) := by
  have hA := h.alloc (.cells #[.int .i64 0, .string ⟨#[]⟩, .slice none 0 0, .slice none 0 0] 53)
  have hX := Bx.new w
  have hb0 : Below w.heap.size w (w.alloc (.cells #[.int .i64 0, .string ⟨#[]⟩, .slice none 0 0, .slice none 0 0] 53)) := (Below.refl _ w).alloc (Nat.le_refl _) _
  have hRlt := h.lt
  by_cases h1 : (hdK (ahead ts p)).1 = 1
  · have HT := takeName_yes _ hA h1
    have HU := Lib.hid (show varV (ahead ts p) = (vx 9 (hdK (ahead ts p)).2, (ahead ts p).tail, 0) by unfold varV; rw [if_pos h1])
    clear h1 hA
    go_enter Tryz.func330, Tryz.ntmps330
    go_wp2_with fail
    refine HT.mono ?_
    rintro e w1 ⟨rfl, hz, q, hl, hr, ha⟩
    have hx : Bx w1 w.heap.size := hX.keep (ha.block _ (by simp) (by omega))
    have ha1 : Aw R w.heap.size w w1 := (Aw.of hb0).trans (ha.mono (by simp))
    have HL := Lib.hid hl
    obtain ⟨r0, r1, r2, r3, rf⟩ := hx
    clear hl ha hb0 hX
    go_wp2_with fail
    refine bodyPost_ret (v := .tuple #[leaf 9 ⟨(hdK (ahead ts p)).2.toArray⟩, .int .i64 0]) (by simp [results, Tryz.results330, go_sem, leaf, r0, r1, r2, r3]) rfl ?_
    rw [HU.out]
    refine ⟨NowV.four h HL.out hr ha1 _ _ _ _, ?_⟩
    rw [if_pos rfl]
    exact ⟨_, rfl, rd_leaf _ _ _ _ _ (by show (hdK (ahead ts p)).2.length ≤ _; omega)⟩
  · have HT := takeName_no _ hA h1
    have HU := Lib.hid (show varV (ahead ts p) = (vz, ahead ts p, 2) by unfold varV; rw [if_neg h1])
    clear h1
    go_enter Tryz.func330, Tryz.ntmps330
    go_wp2_with fail
    refine HT.mono ?_
    rintro e w1 ⟨rfl, hb⟩
    have hx : Bx w1 w.heap.size := hX.keep (hb.block _ (by simp))
    have hr := hA.below hb
    have ha1 : Aw R w.heap.size w w1 := Aw.of (hb0.trans (hb.mono (by simp)))
    obtain ⟨r0, r1, r2, r3, rf⟩ := hx
    clear hb hb0 hX hA
    go_wp2_with fail
    refine bodyPost_ret (v := .tuple #[leaf 0 ⟨#[]⟩, .int .i64 2]) (by simp [results, Tryz.results330, go_sem, leaf, r0, r1, r2, r3]) rfl ?_
    rw [HU.out]
    refine ⟨NowV.four h rfl hr ha1 _ _ _ _, ?_⟩
    rw [if_neg (show ¬ (2 = 0) by decide)]
    exact ⟨rfl, by show (2 : Nat) ≤ 4; decide⟩

end Go.Proofs.YtkfllppggjhhmaaGreatDoor
/-
  value's nodes: what a value is by its shape; which of them may be read.
-/
namespace Go.Proofs.YtkfllppggjhhmaaGreatDoor
open Go.RowKit

/-- A value as a node. -/
def nodeV (k : Int) (v : Value) : Value := .iface (if k = 7 then 300 else if k = 8 then 302 else 303) v
def val4 (k : Int) (s : ByteArray) (an : Option Addr) (ln cn : Nat) (ap : Option Addr) (lp cp : Nat) : Value := .agg #[.int .i64 k, .string s, .slice an ln cn, .slice ap lp cp]

set_option maxHeartbeats 1000000 in
theorem nodeOf_any (k : Int) (s : ByteArray) (an : Option Addr) (ln cn : Nat) (ap : Option Addr) (lp cp : Nat) (w : World) :
    Calls Tryz.prog 259 #[.agg #[.int .i64 k, .string s, .slice an ln cn, .slice ap lp cp]] w fun e w' => e = .returned (nodeV k (val4 k s an ln cn ap lp cp)) ∧ Below w.heap.size w w' := by
  have hbA : ∀ o, Below w.heap.size w (w.alloc o) := fun o => (Below.refl _ w).alloc (Nat.le_refl _) o
  by_cases h7 : k = 7
  · have e7 : (k == 7) = true := by simpa using h7
    have HU := Lib.hid (show nodeV k (val4 k s an ln cn ap lp cp) = .iface 300 (val4 k s an ln cn ap lp cp) by unfold nodeV; rw [if_pos h7])
    clear h7
    go_enter Tryz.func259, Tryz.ntmps259
    go_wp2_with fail
    go_ret
    rw [HU.out]
    exact ⟨rfl, hbA _⟩
  have e7 : (k == 7) = false := by simpa using h7
  by_cases h8 : k = 8
  · have e8 : (k == 8) = true := by simpa using h8
    have HU := Lib.hid (show nodeV k (val4 k s an ln cn ap lp cp) = .iface 302 (val4 k s an ln cn ap lp cp) by unfold nodeV; rw [if_neg h7, if_pos h8])
    clear h7 h8
    go_enter Tryz.func259, Tryz.ntmps259
    go_wp2_with fail
    go_ret
    rw [HU.out]
    exact ⟨rfl, hbA _⟩
  have e8 : (k == 8) = false := by simpa using h8
  have HU := Lib.hid (show nodeV k (val4 k s an ln cn ap lp cp) = .iface 303 (val4 k s an ln cn ap lp cp) by unfold nodeV; rw [if_neg h7, if_neg h8])
  clear h7 h8
  go_enter Tryz.func259, Tryz.ntmps259
  go_wp2_with fail
  go_ret
  rw [HU.out]
  exact ⟨rfl, hbA _⟩

set_option maxHeartbeats 1000000 in
theorem listReadable_any (k : Int) (s : ByteArray) (an : Option Addr) (ln cn : Nat) (ap : Option Addr) (lp cp : Nat) (w : World) :
    Calls Tryz.prog 350 #[.agg #[.int .i64 k, .string s, .slice an ln cn, .slice ap lp cp]] w (BoolBelow (decide (s.size = 0) && decide (ln = 0)) w) := by
  have hbA : ∀ o, Below w.heap.size w (w.alloc o) := fun o => (Below.refl _ w).alloc (Nat.le_refl _) o
  rcases str_cases s with rfl | ⟨e1, HE⟩
  · by_cases hn : ln = 0
    · have e2 : ((ln : Int) == 0) = true := by rw [beq_iff_eq]; omega
      have HN := Lib.hid (show (decide ((⟨#[]⟩ : ByteArray).size = 0) && decide (ln = 0)) = true by rw [hn]; rfl)
      clear hn
      go_enter Tryz.func350, Tryz.ntmps350
      go_wp2_with fail
      go_ret
      exact boolBelow_of HN.out.symm (hbA _)
    · have e2 : ((ln : Int) == 0) = false := by rw [beq_eq_false_iff_ne]; omega
      have HN := Lib.hid (show (decide ((⟨#[]⟩ : ByteArray).size = 0) && decide (ln = 0)) = false by rw [decide_eq_false hn, Bool.and_false])
      clear hn
      go_enter Tryz.func350, Tryz.ntmps350
      go_wp2_with fail
      go_ret
      exact boolBelow_of HN.out.symm (hbA _)
  · have HN := Lib.hid (show (decide (s.size = 0) && decide (ln = 0)) = false by
      have h := HE.out
      have : s.size ≠ 0 := fun e => by
        have e2 : vbl s = [] := List.eq_nil_of_length_eq_zero e
        rw [e2] at h
        cases h
      rw [decide_eq_false this, Bool.false_and])
    go_enter Tryz.func350, Tryz.ntmps350
    go_wp2_with fail
    go_ret
    exact boolBelow_of HN.out.symm (hbA _)

end Go.Proofs.YtkfllppggjhhmaaGreatDoor
/-
  value's nodes: which leaves, which objects may be read; a leaf's text.
-/
namespace Go.Proofs.YtkfllppggjhhmaaGreatDoor
open Go.RowKit

/-- The cells of a leaf's box, behind calls that leave it alone. -/
theorem box_kept {w W : World} {k : Int} {s : ByteArray} {v2 v3 : Value} {T : TypeId} (hb : Below (w.heap.size + 1) (w.alloc (.cells #[.int .i64 k, .string s, v2, v3] T)) W) : W.cell? ⟨w.heap.size, 0, none⟩ = some (.int .i64 k) ∧ W.cell? ⟨w.heap.size, 1, none⟩ = some (.string s) ∧ W.cell? ⟨w.heap.size, 2, none⟩ = some v2 ∧ W.cell? ⟨w.heap.size, 3, none⟩ = some v3 ∧ Below w.heap.size w W := by
  have hn : (w.alloc (.cells #[.int .i64 k, .string s, v2, v3] T)).heap[w.heap.size]? = some (.cells #[.int .i64 k, .string s, v2, v3] T (0, 0)) := heap_alloc_new _ _
  have c : ∀ j, W.cell? ⟨w.heap.size, j, none⟩ = (w.alloc (.cells #[.int .i64 k, .string s, v2, v3] T)).cell? ⟨w.heap.size, j, none⟩ := fun j => World.cell?_of_block (a := ⟨w.heap.size, j, none⟩) (hb.block w.heap.size (by omega))
  exact ⟨(c 0).trans (Lib.cell_of_heap hn 0), (c 1).trans (Lib.cell_of_heap hn 1), (c 2).trans (Lib.cell_of_heap hn 2), (c 3).trans (Lib.cell_of_heap hn 3), ((Below.refl _ w).alloc (Nat.le_refl _) _).trans (hb.mono (by omega))⟩

theorem wp_region_quietC {P : Program} {C : World → Prop} {id : Nat} {Q : Exit → Act → World → Prop} {a : Act} {w : World} {l : List Oper} (hm : P.follows .mixedOrders = true) (hB : Region.lexB .any l.toArray = true) (hC : C w.drew)
    (h : wpQuiet P l.toArray C (fun a' => ∀ w', C w' → Q .normal a' w') l a) : (Code.region id l.toArray true).wp P Q a w :=
  wp_region_quiet hm hB hC (by simpa using h)

def lf (k : Int) (s : ByteArray) : Bool := leafOk (.mk k s [] [])
theorem lf_1 {s : ByteArray} : lf 1 s = decide (s.size = 0) := rfl
theorem lf_3 {s : ByteArray} : lf 3 s = (numOk (vbl s) && numWhole (vbl s)) := rfl
theorem lf_4 {s : ByteArray} : lf 4 s = (numOk (vbl s) && !numWhole (vbl s)) := rfl
theorem lf_5 {s : ByteArray} : lf 5 s = Lib.validD (vbl s) := rfl
theorem lf_9 {s : ByteArray} : lf 9 s = nameB (vbl s) := rfl
theorem lf_2 {s : ByteArray} : lf 2 s = (nameB (vbl s) && decide ((wordV (vbl s)).k = 2)) := rfl
theorem lf_6 {s : ByteArray} : lf 6 s = (nameB (vbl s) && decide ((wordV (vbl s)).k = 6)) := rfl
theorem lf_else {k : Int} {s : ByteArray} (h1 : k ≠ 1) (h3 : k ≠ 3) (h4 : k ≠ 4) (h5 : k ≠ 5) (h9 : k ≠ 9) (h2 : k ≠ 2) (h6 : k ≠ 6) : lf k s = false := by
  unfold lf leafOk
  rw [if_neg (show ¬ (JV.mk k s [] []).k = 1 from h1), if_neg (show ¬ (JV.mk k s [] []).k = 3 from h3), if_neg (show ¬ (JV.mk k s [] []).k = 4 from h4), if_neg (show ¬ (JV.mk k s [] []).k = 5 from h5), if_neg (show ¬ (JV.mk k s [] []).k = 9 from h9), if_neg (show ¬ (JV.mk k s [] []).k = 2 from h2), if_neg (show ¬ (JV.mk k s [] []).k = 6 from h6)]
set_option maxHeartbeats 2000000 in
set_option maxRecDepth 100000 in
theorem leafReadable_none (k : Int) (s : ByteArray) (an : Option Addr) (ln cn : Nat) (ap : Option Addr) (lp cp : Nat) (w : World) (h : ln ≠ 0 ∨ lp ≠ 0) :
    Calls Tryz.prog 352 #[.agg #[.int .i64 k, .string s, .slice an ln cn, .slice ap lp cp]] w (BoolBelow false w) := by
  have hbA : ∀ o, Below w.heap.size w (w.alloc o) := fun o => (Below.refl _ w).alloc (Nat.le_refl _) o
  by_cases hn : ln = 0
  · have hp : lp ≠ 0 := h.resolve_left (fun x => x hn)
    subst hn
    have e3 : decide (0 < lp) = true := decide_eq_true (by omega)
    clear h hp
    go_enter Tryz.func352, Tryz.ntmps352
    go_wp2_with fail
    go_ret
    exact ⟨rfl, hbA _⟩
  · have e2 : decide (0 < ln) = true := decide_eq_true (by omega)
    clear h hn
    go_enter Tryz.func352, Tryz.ntmps352
    go_wp2_with fail
    go_ret
    exact ⟨rfl, hbA _⟩

set_option maxHeartbeats 4000000 in
set_option maxRecDepth 100000 in
theorem leafReadable_any (k : Int) (s : ByteArray) (an : Option Addr) (cn : Nat) (ap : Option Addr) (cp : Nat) (w : World) (hs : s.size ≤ 2000000) :
    Calls Tryz.prog 352 #[.agg #[.int .i64 k, .string s, .slice an 0 cn, .slice ap 0 cp]] w (BoolBelow (lf k s) w) := by
  have hbA : ∀ o, Below w.heap.size w (w.alloc o) := fun o => (Below.refl _ w).alloc (Nat.le_refl _) o
  have hm : s.size ≤ maxLen := by unfold maxLen; omega
  have F := fun W (hb : Below (w.heap.size + 1) (w.alloc (.cells #[.int .i64 k, .string s, .slice an 0 cn, .slice ap 0 cp] 303)) W) => box_kept hb
  have hz1 : (w.alloc (.cells #[.int .i64 k, .string s, .slice an 0 cn, .slice ap 0 cp] 303)).heap.size = w.heap.size + 1 := by simp
  by_cases h1 : k = 1
  · subst h1
    rcases str_cases s with rfl | ⟨e1, HE⟩
    · go_enter Tryz.func352, Tryz.ntmps352
      go_wp2_with fail
      go_ret
      exact boolBelow_of rfl (hbA _)
    · have HN := Lib.hid (show lf 1 s = false by
        rw [lf_1]
        exact decide_eq_false (fun e => by
          have e2 : vbl s = [] := List.eq_nil_of_length_eq_zero e
          have h := HE.out
          rw [e2] at h
          cases h))
      go_enter Tryz.func352, Tryz.ntmps352
      go_wp2_with fail
      go_ret
      exact boolBelow_of HN.out.symm (hbA _)
  by_cases h3 : k = 3
  · subst h3
    have HN := number_any s (w.alloc (.cells #[.int .i64 3, .string s, .slice an 0 cn, .slice ap 0 cp] 303))
    change Calls _ _ _ _ (NumIs (vbl s) _) at HN
    have HL := Lib.hid (lf_3 (s := s))
    cases ho : numOk (vbl s) with
    | false =>
      go_enter Tryz.func352, Tryz.ntmps352
      go_wp2_with fail
      refine HN.mono ?_
      rintro e w1 ⟨rfl, b1⟩
      rw [hz1] at b1
      obtain ⟨c0, c1, c2, c3, hb⟩ := F w1 b1
      go_wp2_with fail
      go_ret
      exact boolBelow_of (by rw [HL.out, ho]; rfl) hb
    | true =>
      cases hw : numWhole (vbl s) with
      | false =>
        go_enter Tryz.func352, Tryz.ntmps352
        go_wp2_with fail
        refine HN.mono ?_
        rintro e w1 ⟨rfl, b1⟩
        rw [hz1] at b1
        obtain ⟨c0, c1, c2, c3, hb⟩ := F w1 b1
        go_wp2_with fail
        go_ret
        exact boolBelow_of (by rw [HL.out, ho, hw]; rfl) hb
      | true =>
        go_enter Tryz.func352, Tryz.ntmps352
        go_wp2_with fail
        refine HN.mono ?_
        rintro e w1 ⟨rfl, b1⟩
        rw [hz1] at b1
        obtain ⟨c0, c1, c2, c3, hb⟩ := F w1 b1
        go_wp2_with fail
        go_ret
        exact boolBelow_of (by rw [HL.out, ho, hw]; rfl) hb
  by_cases h4 : k = 4
  · subst h4
    have HN := number_any s (w.alloc (.cells #[.int .i64 4, .string s, .slice an 0 cn, .slice ap 0 cp] 303))
    change Calls _ _ _ _ (NumIs (vbl s) _) at HN
    have HL := Lib.hid (lf_4 (s := s))
    cases ho : numOk (vbl s) with
    | false =>
      go_enter Tryz.func352, Tryz.ntmps352
      go_wp2_with fail
      refine HN.mono ?_
      rintro e w1 ⟨rfl, b1⟩
      rw [hz1] at b1
      obtain ⟨c0, c1, c2, c3, hb⟩ := F w1 b1
      go_wp2_with fail
      go_ret
      exact boolBelow_of (by rw [HL.out, ho]; rfl) hb
    | true =>
      cases hw : numWhole (vbl s) with
      | false =>
        go_enter Tryz.func352, Tryz.ntmps352
        go_wp2_with fail
        refine HN.mono ?_
        rintro e w1 ⟨rfl, b1⟩
        rw [hz1] at b1
        obtain ⟨c0, c1, c2, c3, hb⟩ := F w1 b1
        go_wp2_with fail
        go_ret
        exact boolBelow_of (by rw [HL.out, ho, hw]; rfl) hb
      | true =>
        go_enter Tryz.func352, Tryz.ntmps352
        go_wp2_with fail
        refine HN.mono ?_
        rintro e w1 ⟨rfl, b1⟩
        rw [hz1] at b1
        obtain ⟨c0, c1, c2, c3, hb⟩ := F w1 b1
        go_wp2_with fail
        go_ret
        exact boolBelow_of (by rw [HL.out, ho, hw]; rfl) hb
  by_cases h5 : k = 5
  · subst h5
    have HN := valid_any s (w.alloc (.cells #[.int .i64 5, .string s, .slice an 0 cn, .slice ap 0 cp] 303))
    have HL := Lib.hid (lf_5 (s := s))
    go_enter Tryz.func352, Tryz.ntmps352
    go_wp2_with fail
    refine HN.mono ?_
    rintro e w1 ⟨rfl, b1⟩
    rw [hz1] at b1
    obtain ⟨c0, c1, c2, c3, hb⟩ := F w1 b1
    go_wp2_with fail
    go_ret
    exact boolBelow_of (by rw [HL.out]; rfl) hb
  by_cases h9 : k = 9
  · subst h9
    have HN := name_any s (w.alloc (.cells #[.int .i64 9, .string s, .slice an 0 cn, .slice ap 0 cp] 303)) hm
    have HL := Lib.hid (lf_9 (s := s))
    go_enter Tryz.func352, Tryz.ntmps352
    go_wp2_with fail
    refine HN.mono ?_
    rintro e w1 ⟨rfl, b1⟩
    rw [hz1] at b1
    obtain ⟨c0, c1, c2, c3, hb⟩ := F w1 b1
    go_wp2_with fail
    go_ret
    exact boolBelow_of (by rw [HL.out]; rfl) hb
  by_cases h26 : k = 2 ∨ k = 6
  · have e1 : (k == 1) = false := by simpa using h1
    have e3 : (k == 3) = false := by simpa using h3
    have e4 : (k == 4) = false := by simpa using h4
    have e5 : (k == 5) = false := by simpa using h5
    have e9 : (k == 9) = false := by simpa using h9
    have HL := Lib.hid (show lf k s = (nameB (vbl s) && ((wordV (vbl s)).k == k)) by
      rcases h26 with rfl | rfl
      · rw [lf_2]; congr 1
      · rw [lf_6]; congr 1)
    have NA : ∀ W, Calls Tryz.prog 61 #[.string s] W fun e w' => e = .returned (.bool (nameB (vbl s))) ∧ Below W.heap.size W w' := fun W => name_any s W hm
    have WA : ∀ W, Calls Tryz.prog 333 #[.string s] W fun e w' => e = .returned (leafOf (wordV (vbl s))) ∧ Below W.heap.size W w' := fun W => vword_any s W
    obtain ⟨U, hU⟩ : ∃ U, U = w.alloc (.cells #[.int .i64 k, .string s, .slice an 0 cn, .slice ap 0 cp] 303) := ⟨_, rfl⟩
    have hUs : U.heap.size = w.heap.size + 1 := by rw [hU]; exact hz1
    have bc : Below U.heap.size U (w.alloc (.cells #[.int .i64 k, .string s, .slice an 0 cn, .slice ap 0 cp] 303)).drew := by rw [← hU]; exact (Below.refl _ _).drew
    obtain ⟨I, g, hNE, hG1, hG2⟩ : ∃ (I : Type) (g : I → World), Nonempty I ∧ (∀ i, Below U.heap.size U (g i)) ∧ ∀ V, Below U.heap.size U V → ∃ i, V = g i := ⟨{V // Below U.heap.size U V}, Subtype.val, ⟨⟨U, Below.refl _ _⟩⟩, fun i => i.2, fun V h => ⟨⟨V, h⟩, rfl⟩⟩
    have FF : ∀ i, (g i).cell? ⟨w.heap.size, 0, none⟩ = some (.int .i64 k) ∧ (g i).cell? ⟨w.heap.size, 1, none⟩ = some (.string s) ∧ Below w.heap.size w (g i) := fun i => by
      have hb : Below (w.heap.size + 1) (w.alloc (.cells #[.int .i64 k, .string s, .slice an 0 cn, .slice ap 0 cp] 303)) (g i) := by rw [← hU, ← hUs]; exact hG1 i
      exact ⟨(F _ hb).1, (F _ hb).2.1, (F _ hb).2.2.2.2⟩
    have f0 := fun i => (FF i).1
    have f1 := fun i => (FF i).2.1
    have HB := Lib.hid (fun i => (FF i).2.2)
    have hc0 := hG2 _ bc
    have SN : ∀ i, Calls Tryz.prog 61 #[.string s] (g i) fun e w' => e = .returned (.bool (nameB (vbl s))) ∧ ∃ i', w' = g i' := fun i => (NA _).mono (fun e w7 he => ⟨he.1, hG2 _ ((hG1 i).trans (he.2.mono (hG1 i).size))⟩)
    unfold leafOf leaf at WA
    have SW : ∀ i, Calls Tryz.prog 333 #[.string s] (g i) fun e w' => e = .returned (.agg #[.int .i64 (wordV (vbl s)).k, .string (wordV (vbl s)).s, .slice none 0 0, .slice none 0 0]) ∧ ∃ i', w' = g i' := fun i => (WA _).mono (fun e w7 he => ⟨he.1, hG2 _ ((hG1 i).trans (he.2.mono (hG1 i).size))⟩)
    have HFL : ∀ (kw : Int) (sw : ByteArray) (W : World), (Instr.field 53 (.agg #[.int .i64 kw, .string sw, .slice none 0 0, .slice none 0 0]) 0).run Tryz.prog W = .ok (.int .i64 kw) W := fun _ _ _ => by kernel_rfl
    clear F hz1 FF NA WA bc hG1 hG2 hU hUs
    clear U
    generalize (wordV (vbl s)).k = kw at *
    generalize (wordV (vbl s)).s = sw at *
    clear h1 h3 h4 h5 h9
    cases hn : nameB (vbl s) with
    | false =>
      rw [hn] at SN
      have HL := Lib.hid (show lf k s = false by rw [HL.out, hn]; rfl)
      clear hn
      rcases h26 with rfl | rfl
      · go_enter Tryz.func352, Tryz.ntmps352
        go_upto_region 16 with fail
        refine wp_region_quietC (C := fun W => ∃ i, W = g i) (by kernel_rfl) (by kernel_rfl) hc0 ?_
        repeat (go_big_quiet_step (first | (go_at_call 61; exact SN _) | (go_at_call 333; exact SW _)))
        refine wpQuiet_nil ?_
        intro _ hw'
        obtain ⟨V, rfl⟩ := hw'
        have hb := HB.out V
        go_wp2_with fail
        go_ret
        exact boolBelow_of HL.out.symm hb
      · go_enter Tryz.func352, Tryz.ntmps352
        go_upto_region 16 with fail
        refine wp_region_quietC (C := fun W => ∃ i, W = g i) (by kernel_rfl) (by kernel_rfl) hc0 ?_
        repeat (go_big_quiet_step (first | (go_at_call 61; exact SN _) | (go_at_call 333; exact SW _)))
        refine wpQuiet_nil ?_
        intro _ hw'
        obtain ⟨V, rfl⟩ := hw'
        have hb := HB.out V
        go_wp2_with fail
        go_ret
        exact boolBelow_of HL.out.symm hb
    | true =>
      rw [hn] at SN
      have HL := Lib.hid (show lf k s = (kw == k) by rw [HL.out, hn]; rfl)
      clear hn
      rcases h26 with rfl | rfl
      · go_enter Tryz.func352, Tryz.ntmps352
        go_upto_region 16 with fail
        refine wp_region_quietC (C := fun W => ∃ i, W = g i) (by kernel_rfl) (by kernel_rfl) hc0 ?_
        repeat (go_big_quiet_step (first | (go_at_call 61; exact SN _) | (go_at_call 333; exact SW _)))
        refine wpQuiet_nil ?_
        intro _ hw'
        obtain ⟨V, rfl⟩ := hw'
        have hb := HB.out V
        go_wp2_with fail
        go_ret
        exact boolBelow_of HL.out.symm hb
      · go_enter Tryz.func352, Tryz.ntmps352
        go_upto_region 16 with fail
        refine wp_region_quietC (C := fun W => ∃ i, W = g i) (by kernel_rfl) (by kernel_rfl) hc0 ?_
        repeat (go_big_quiet_step (first | (go_at_call 61; exact SN _) | (go_at_call 333; exact SW _)))
        refine wpQuiet_nil ?_
        intro _ hw'
        obtain ⟨V, rfl⟩ := hw'
        have hb := HB.out V
        go_wp2_with fail
        go_ret
        exact boolBelow_of HL.out.symm hb
  · have e1 : (k == 1) = false := by simpa using h1
    have e3 : (k == 3) = false := by simpa using h3
    have e4 : (k == 4) = false := by simpa using h4
    have e5 : (k == 5) = false := by simpa using h5
    have e9 : (k == 9) = false := by simpa using h9
    have e2 : (k == 2) = false := by simp; exact fun e => h26 (.inl e)
    have e6 : (k == 6) = false := by simp; exact fun e => h26 (.inr e)
    have HL := Lib.hid (lf_else (s := s) h1 h3 h4 h5 h9 (fun e => h26 (.inl e)) (fun e => h26 (.inr e)))
    clear h1 h3 h4 h5 h9 h26
    go_enter Tryz.func352, Tryz.ntmps352
    go_wp2_with fail
    go_ret
    exact boolBelow_of HL.out.symm (hbA _)

end Go.Proofs.YtkfllppggjhhmaaGreatDoor
