/-
  value's nodes: what a value is by its shape; which of them may be read.
-/
import Derived.Test.YtibkncgfdhflgaaGreatDoorMV3
import Derived.Test.YtibkncgfdhflgaaGreatDoorMText2
import Derived.Test.YtibkncgfdhflgaaGreatDoorLetters
import Derived.BigQuiet
namespace Go.Proofs.YtibkncgfdhflgaaGreatDoor
open Go.RowKit

/-- A value as a node. -/
def nodeV (k : Int) (v : Value) : Value := .iface (if k = 7 then 171 else if k = 8 then 173 else 174) v
def val4 (k : Int) (s : ByteArray) (an : Option Addr) (ln cn : Nat) (ap : Option Addr) (lp cp : Nat) : Value := .agg #[.int .i64 k, .string s, .slice an ln cn, .slice ap lp cp]

set_option maxHeartbeats 1000000 in
theorem nodeOf_any (k : Int) (s : ByteArray) (an : Option Addr) (ln cn : Nat) (ap : Option Addr) (lp cp : Nat) (w : World) :
    Calls Tryz.prog 141 #[.agg #[.int .i64 k, .string s, .slice an ln cn, .slice ap lp cp]] w fun e w' => e = .returned (nodeV k (val4 k s an ln cn ap lp cp)) ∧ Below w.heap.size w w' := by
  have hbA : ∀ o, Below w.heap.size w (w.alloc o) := fun o => (Below.refl _ w).alloc (Nat.le_refl _) o
  by_cases h7 : k = 7
  · have e7 : (k == 7) = true := by simpa using h7
    have HU := Lib.hid (show nodeV k (val4 k s an ln cn ap lp cp) = .iface 171 (val4 k s an ln cn ap lp cp) by unfold nodeV; rw [if_pos h7])
    clear h7
    go_enter Tryz.func141, Tryz.ntmps141
    go_wp2_with fail
    go_ret
    rw [HU.out]
    exact ⟨rfl, hbA _⟩
  have e7 : (k == 7) = false := by simpa using h7
  by_cases h8 : k = 8
  · have e8 : (k == 8) = true := by simpa using h8
    have HU := Lib.hid (show nodeV k (val4 k s an ln cn ap lp cp) = .iface 173 (val4 k s an ln cn ap lp cp) by unfold nodeV; rw [if_neg h7, if_pos h8])
    clear h7 h8
    go_enter Tryz.func141, Tryz.ntmps141
    go_wp2_with fail
    go_ret
    rw [HU.out]
    exact ⟨rfl, hbA _⟩
  have e8 : (k == 8) = false := by simpa using h8
  have HU := Lib.hid (show nodeV k (val4 k s an ln cn ap lp cp) = .iface 174 (val4 k s an ln cn ap lp cp) by unfold nodeV; rw [if_neg h7, if_neg h8])
  clear h7 h8
  go_enter Tryz.func141, Tryz.ntmps141
  go_wp2_with fail
  go_ret
  rw [HU.out]
  exact ⟨rfl, hbA _⟩

set_option maxHeartbeats 1000000 in
theorem listReadable_any (k : Int) (s : ByteArray) (an : Option Addr) (ln cn : Nat) (ap : Option Addr) (lp cp : Nat) (w : World) :
    Calls Tryz.prog 219 #[.agg #[.int .i64 k, .string s, .slice an ln cn, .slice ap lp cp]] w (BoolBelow (decide (s.size = 0) && decide (ln = 0)) w) := by
  have hbA : ∀ o, Below w.heap.size w (w.alloc o) := fun o => (Below.refl _ w).alloc (Nat.le_refl _) o
  rcases str_cases s with rfl | ⟨e1, HE⟩
  · by_cases hn : ln = 0
    · have e2 : ((ln : Int) == 0) = true := by rw [beq_iff_eq]; omega
      have HN := Lib.hid (show (decide ((⟨#[]⟩ : ByteArray).size = 0) && decide (ln = 0)) = true by rw [hn]; rfl)
      clear hn
      go_enter Tryz.func219, Tryz.ntmps219
      go_wp2_with fail
      go_ret
      exact boolBelow_of HN.out.symm (hbA _)
    · have e2 : ((ln : Int) == 0) = false := by rw [beq_eq_false_iff_ne]; omega
      have HN := Lib.hid (show (decide ((⟨#[]⟩ : ByteArray).size = 0) && decide (ln = 0)) = false by rw [decide_eq_false hn, Bool.and_false])
      clear hn
      go_enter Tryz.func219, Tryz.ntmps219
      go_wp2_with fail
      go_ret
      exact boolBelow_of HN.out.symm (hbA _)
  · have HN := Lib.hid (show (decide (s.size = 0) && decide (ln = 0)) = false by
      have h := HE.out
      have : s.size ≠ 0 := fun e => by
        have e2 : vbl s = [] := List.eq_nil_of_length_eq_zero e
        rw [e2] at h
        cases h
      rw [decide_eq_false this, Bool.false_and])
    go_enter Tryz.func219, Tryz.ntmps219
    go_wp2_with fail
    go_ret
    exact boolBelow_of HN.out.symm (hbA _)

end Go.Proofs.YtibkncgfdhflgaaGreatDoor

/-
  value's nodes: which leaves, which objects may be read; a leaf's text.
-/
namespace Go.Proofs.YtibkncgfdhflgaaGreatDoor
open Go.RowKit

/-- The cells of a leaf's box, behind calls that leave it alone. -/
theorem box_kept {w W : World} {k : Int} {s : ByteArray} {v2 v3 : Value} {T : TypeId} (hb : Below (w.heap.size + 1) (w.alloc (.cells #[.int .i64 k, .string s, v2, v3] T)) W) : W.cell? ⟨w.heap.size, 0, none⟩ = some (.int .i64 k) ∧ W.cell? ⟨w.heap.size, 1, none⟩ = some (.string s) ∧ W.cell? ⟨w.heap.size, 2, none⟩ = some v2 ∧ W.cell? ⟨w.heap.size, 3, none⟩ = some v3 ∧ Below w.heap.size w W := by
  have hn : (w.alloc (.cells #[.int .i64 k, .string s, v2, v3] T)).heap[w.heap.size]? = some (.cells #[.int .i64 k, .string s, v2, v3] T (0, 0)) := heap_alloc_new _ _
  have c : ∀ j, W.cell? ⟨w.heap.size, j, none⟩ = (w.alloc (.cells #[.int .i64 k, .string s, v2, v3] T)).cell? ⟨w.heap.size, j, none⟩ := fun j => World.cell?_of_block (a := ⟨w.heap.size, j, none⟩) (hb.block w.heap.size (by omega))
  exact ⟨(c 0).trans (Lib.cell_of_heap hn 0), (c 1).trans (Lib.cell_of_heap hn 1), (c 2).trans (Lib.cell_of_heap hn 2), (c 3).trans (Lib.cell_of_heap hn 3), ((Below.refl _ w).alloc (Nat.le_refl _) _).trans (hb.mono (by omega))⟩

theorem wp_region_quietC {P : Program} {C : World → Prop} {id : Nat} {Q : Exit → Act → World → Prop} {a : Act} {w : World} {l : List Oper} (hm : P.follows .mixedOrders = true) (hB : Region.lexB .any l.toArray = true) (hC : C w.drew)
    (h : wpQuiet P l.toArray C (fun a' => ∀ w', C w' → Q .normal a' w') l a) : (Code.region id l.toArray true).wp P Q a w :=
  wp_region_quiet hm hB hC (by simpa using h)

def lf (k : Int) (s : ByteArray) : Bool := leafOk (.mk k s [] [])
theorem lf_1 {s : ByteArray} : lf 1 s = decide (s.size = 0) := rfl
theorem lf_3 {s : ByteArray} : lf 3 s = (numOk (vbl s) && numWhole (vbl s)) := rfl
theorem lf_4 {s : ByteArray} : lf 4 s = (numOk (vbl s) && !numWhole (vbl s)) := rfl
theorem lf_5 {s : ByteArray} : lf 5 s = Lib.validD (vbl s) := rfl
theorem lf_9 {s : ByteArray} : lf 9 s = nameB (vbl s) := rfl
theorem lf_2 {s : ByteArray} : lf 2 s = (nameB (vbl s) && decide ((wordV (vbl s)).k = 2)) := rfl
theorem lf_6 {s : ByteArray} : lf 6 s = (nameB (vbl s) && decide ((wordV (vbl s)).k = 6)) := rfl
theorem lf_else {k : Int} {s : ByteArray} (h1 : k ≠ 1) (h3 : k ≠ 3) (h4 : k ≠ 4) (h5 : k ≠ 5) (h9 : k ≠ 9) (h2 : k ≠ 2) (h6 : k ≠ 6) : lf k s = false := by
  unfold lf leafOk
  rw [if_neg (show ¬ (JV.mk k s [] []).k = 1 from h1), if_neg (show ¬ (JV.mk k s [] []).k = 3 from h3), if_neg (show ¬ (JV.mk k s [] []).k = 4 from h4), if_neg (show ¬ (JV.mk k s [] []).k = 5 from h5), if_neg (show ¬ (JV.mk k s [] []).k = 9 from h9), if_neg (show ¬ (JV.mk k s [] []).k = 2 from h2), if_neg (show ¬ (JV.mk k s [] []).k = 6 from h6)]
theorem word_k (l : List UInt8) : (wordV l).k = 1 ∨ (wordV l).k = 2 ∨ (wordV l).k = 6 := by
  unfold wordV
  split
  · exact .inl rfl
  split
  · exact .inr (.inl rfl)
  split
  · exact .inr (.inl rfl)
  · exact .inr (.inr rfl)

set_option maxHeartbeats 2000000 in
set_option maxRecDepth 100000 in
theorem leafReadable_none (k : Int) (s : ByteArray) (an : Option Addr) (ln cn : Nat) (ap : Option Addr) (lp cp : Nat) (w : World) (h : ln ≠ 0 ∨ lp ≠ 0) :
    Calls Tryz.prog 221 #[.agg #[.int .i64 k, .string s, .slice an ln cn, .slice ap lp cp]] w (BoolBelow false w) := by
  have hbA : ∀ o, Below w.heap.size w (w.alloc o) := fun o => (Below.refl _ w).alloc (Nat.le_refl _) o
  by_cases hn : ln = 0
  · have hp : lp ≠ 0 := h.resolve_left (fun x => x hn)
    subst hn
    have e3 : decide (0 < lp) = true := decide_eq_true (by omega)
    clear h hp
    go_enter Tryz.func221, Tryz.ntmps221
    go_wp2_with fail
    go_ret
    exact ⟨rfl, hbA _⟩
  · have e2 : decide (0 < ln) = true := decide_eq_true (by omega)
    clear h hn
    go_enter Tryz.func221, Tryz.ntmps221
    go_wp2_with fail
    go_ret
    exact ⟨rfl, hbA _⟩

set_option maxHeartbeats 4000000 in
set_option maxRecDepth 100000 in
theorem leafReadable_any (k : Int) (s : ByteArray) (an : Option Addr) (cn : Nat) (ap : Option Addr) (cp : Nat) (w : World) (hs : s.size ≤ 2000000) :
    Calls Tryz.prog 221 #[.agg #[.int .i64 k, .string s, .slice an 0 cn, .slice ap 0 cp]] w (BoolBelow (lf k s) w) := by
  have hbA : ∀ o, Below w.heap.size w (w.alloc o) := fun o => (Below.refl _ w).alloc (Nat.le_refl _) o
  have hm : s.size ≤ maxLen := by unfold maxLen; omega
  have F := fun W (hb : Below (w.heap.size + 1) (w.alloc (.cells #[.int .i64 k, .string s, .slice an 0 cn, .slice ap 0 cp] 174)) W) => box_kept hb
  have hz1 : (w.alloc (.cells #[.int .i64 k, .string s, .slice an 0 cn, .slice ap 0 cp] 174)).heap.size = w.heap.size + 1 := by simp
  by_cases h1 : k = 1
  · subst h1
    rcases str_cases s with rfl | ⟨e1, HE⟩
    · go_enter Tryz.func221, Tryz.ntmps221
      go_wp2_with fail
      go_ret
      exact boolBelow_of rfl (hbA _)
    · have HN := Lib.hid (show lf 1 s = false by
        rw [lf_1]
        exact decide_eq_false (fun e => by
          have e2 : vbl s = [] := List.eq_nil_of_length_eq_zero e
          have h := HE.out
          rw [e2] at h
          cases h))
      go_enter Tryz.func221, Tryz.ntmps221
      go_wp2_with fail
      go_ret
      exact boolBelow_of HN.out.symm (hbA _)
  by_cases h3 : k = 3
  · subst h3
    have HN := number_any s (w.alloc (.cells #[.int .i64 3, .string s, .slice an 0 cn, .slice ap 0 cp] 174))
    change Calls _ _ _ _ (NumIs (vbl s) _) at HN
    have HL := Lib.hid (lf_3 (s := s))
    cases ho : numOk (vbl s) with
    | false =>
      go_enter Tryz.func221, Tryz.ntmps221
      go_wp2_with fail
      refine HN.mono ?_
      rintro e w1 ⟨rfl, b1⟩
      rw [hz1] at b1
      obtain ⟨c0, c1, c2, c3, hb⟩ := F w1 b1
      go_wp2_with fail
      go_ret
      exact boolBelow_of (by rw [HL.out, ho]; rfl) hb
    | true =>
      cases hw : numWhole (vbl s) with
      | false =>
        go_enter Tryz.func221, Tryz.ntmps221
        go_wp2_with fail
        refine HN.mono ?_
        rintro e w1 ⟨rfl, b1⟩
        rw [hz1] at b1
        obtain ⟨c0, c1, c2, c3, hb⟩ := F w1 b1
        go_wp2_with fail
        go_ret
        exact boolBelow_of (by rw [HL.out, ho, hw]; rfl) hb
      | true =>
        go_enter Tryz.func221, Tryz.ntmps221
        go_wp2_with fail
        refine HN.mono ?_
        rintro e w1 ⟨rfl, b1⟩
        rw [hz1] at b1
        obtain ⟨c0, c1, c2, c3, hb⟩ := F w1 b1
        go_wp2_with fail
        go_ret
        exact boolBelow_of (by rw [HL.out, ho, hw]; rfl) hb
  by_cases h4 : k = 4
  · subst h4
    have HN := number_any s (w.alloc (.cells #[.int .i64 4, .string s, .slice an 0 cn, .slice ap 0 cp] 174))
    change Calls _ _ _ _ (NumIs (vbl s) _) at HN
    have HL := Lib.hid (lf_4 (s := s))
    cases ho : numOk (vbl s) with
    | false =>
      go_enter Tryz.func221, Tryz.ntmps221
      go_wp2_with fail
      refine HN.mono ?_
      rintro e w1 ⟨rfl, b1⟩
      rw [hz1] at b1
      obtain ⟨c0, c1, c2, c3, hb⟩ := F w1 b1
      go_wp2_with fail
      go_ret
      exact boolBelow_of (by rw [HL.out, ho]; rfl) hb
    | true =>
      cases hw : numWhole (vbl s) with
      | false =>
        go_enter Tryz.func221, Tryz.ntmps221
        go_wp2_with fail
        refine HN.mono ?_
        rintro e w1 ⟨rfl, b1⟩
        rw [hz1] at b1
        obtain ⟨c0, c1, c2, c3, hb⟩ := F w1 b1
        go_wp2_with fail
        go_ret
        exact boolBelow_of (by rw [HL.out, ho, hw]; rfl) hb
      | true =>
        go_enter Tryz.func221, Tryz.ntmps221
        go_wp2_with fail
        refine HN.mono ?_
        rintro e w1 ⟨rfl, b1⟩
        rw [hz1] at b1
        obtain ⟨c0, c1, c2, c3, hb⟩ := F w1 b1
        go_wp2_with fail
        go_ret
        exact boolBelow_of (by rw [HL.out, ho, hw]; rfl) hb
  by_cases h5 : k = 5
  · subst h5
    have HN := valid_any s (w.alloc (.cells #[.int .i64 5, .string s, .slice an 0 cn, .slice ap 0 cp] 174))
    have HL := Lib.hid (lf_5 (s := s))
    go_enter Tryz.func221, Tryz.ntmps221
    go_wp2_with fail
    refine HN.mono ?_
    rintro e w1 ⟨rfl, b1⟩
    rw [hz1] at b1
    obtain ⟨c0, c1, c2, c3, hb⟩ := F w1 b1
    go_wp2_with fail
    go_ret
    exact boolBelow_of (by rw [HL.out]; rfl) hb
  by_cases h9 : k = 9
  · subst h9
    have HN := name_any s (w.alloc (.cells #[.int .i64 9, .string s, .slice an 0 cn, .slice ap 0 cp] 174)) hm
    have HL := Lib.hid (lf_9 (s := s))
    go_enter Tryz.func221, Tryz.ntmps221
    go_wp2_with fail
    refine HN.mono ?_
    rintro e w1 ⟨rfl, b1⟩
    rw [hz1] at b1
    obtain ⟨c0, c1, c2, c3, hb⟩ := F w1 b1
    go_wp2_with fail
    go_ret
    exact boolBelow_of (by rw [HL.out]; rfl) hb
  by_cases h26 : k = 2 ∨ k = 6
  · have e1 : (k == 1) = false := by simpa using h1
    have e3 : (k == 3) = false := by simpa using h3
    have e4 : (k == 4) = false := by simpa using h4
    have e5 : (k == 5) = false := by simpa using h5
    have e9 : (k == 9) = false := by simpa using h9
    have HL := Lib.hid (show lf k s = (nameB (vbl s) && ((wordV (vbl s)).k == k)) by
      rcases h26 with rfl | rfl
      · rw [lf_2]; congr 1
      · rw [lf_6]; congr 1)
    have NA : ∀ W, Calls Tryz.prog 34 #[.string s] W fun e w' => e = .returned (.bool (nameB (vbl s))) ∧ Below W.heap.size W w' := fun W => name_any s W hm
    have WA : ∀ W, Calls Tryz.prog 202 #[.string s] W fun e w' => e = .returned (leafOf (wordV (vbl s))) ∧ Below W.heap.size W w' := fun W => vword_any s W
    obtain ⟨U, hU⟩ : ∃ U, U = w.alloc (.cells #[.int .i64 k, .string s, .slice an 0 cn, .slice ap 0 cp] 174) := ⟨_, rfl⟩
    have hUs : U.heap.size = w.heap.size + 1 := by rw [hU]; exact hz1
    have bc : Below U.heap.size U (w.alloc (.cells #[.int .i64 k, .string s, .slice an 0 cn, .slice ap 0 cp] 174)).drew := by rw [← hU]; exact (Below.refl _ _).drew
    obtain ⟨I, g, hNE, hG1, hG2⟩ : ∃ (I : Type) (g : I → World), Nonempty I ∧ (∀ i, Below U.heap.size U (g i)) ∧ ∀ V, Below U.heap.size U V → ∃ i, V = g i := ⟨{V // Below U.heap.size U V}, Subtype.val, ⟨⟨U, Below.refl _ _⟩⟩, fun i => i.2, fun V h => ⟨⟨V, h⟩, rfl⟩⟩
    have FF : ∀ i, (g i).cell? ⟨w.heap.size, 0, none⟩ = some (.int .i64 k) ∧ (g i).cell? ⟨w.heap.size, 1, none⟩ = some (.string s) ∧ Below w.heap.size w (g i) := fun i => by
      have hb : Below (w.heap.size + 1) (w.alloc (.cells #[.int .i64 k, .string s, .slice an 0 cn, .slice ap 0 cp] 174)) (g i) := by rw [← hU, ← hUs]; exact hG1 i
      exact ⟨(F _ hb).1, (F _ hb).2.1, (F _ hb).2.2.2.2⟩
    have f0 := fun i => (FF i).1
    have f1 := fun i => (FF i).2.1
    have HB := Lib.hid (fun i => (FF i).2.2)
    have hc0 := hG2 _ bc
    have SN : ∀ i, Calls Tryz.prog 34 #[.string s] (g i) fun e w' => e = .returned (.bool (nameB (vbl s))) ∧ ∃ i', w' = g i' := fun i => (NA _).mono (fun e w7 he => ⟨he.1, hG2 _ ((hG1 i).trans (he.2.mono (hG1 i).size))⟩)
    unfold leafOf leaf at WA
    have SW : ∀ i, Calls Tryz.prog 202 #[.string s] (g i) fun e w' => e = .returned (.agg #[.int .i64 (wordV (vbl s)).k, .string (wordV (vbl s)).s, .slice none 0 0, .slice none 0 0]) ∧ ∃ i', w' = g i' := fun i => (WA _).mono (fun e w7 he => ⟨he.1, hG2 _ ((hG1 i).trans (he.2.mono (hG1 i).size))⟩)
    have HFL : ∀ (kw : Int) (sw : ByteArray) (W : World), (Instr.field 45 (.agg #[.int .i64 kw, .string sw, .slice none 0 0, .slice none 0 0]) 0).run Tryz.prog W = .ok (.int .i64 kw) W := fun _ _ _ => by kernel_rfl
    clear F hz1 FF NA WA bc hG1 hG2 hU hUs
    clear U
    generalize (wordV (vbl s)).k = kw at *
    generalize (wordV (vbl s)).s = sw at *
    clear h1 h3 h4 h5 h9
    cases hn : nameB (vbl s) with
    | false =>
      rw [hn] at SN
      have HL := Lib.hid (show lf k s = false by rw [HL.out, hn]; rfl)
      clear hn
      rcases h26 with rfl | rfl
      · go_enter Tryz.func221, Tryz.ntmps221
        go_upto_region 16 with fail
        refine wp_region_quietC (C := fun W => ∃ i, W = g i) (by kernel_rfl) (by kernel_rfl) hc0 ?_
        repeat (go_big_quiet_step (first | (go_at_call 34; exact SN _) | (go_at_call 202; exact SW _)))
        refine wpQuiet_nil ?_
        intro _ hw'
        obtain ⟨V, rfl⟩ := hw'
        have hb := HB.out V
        go_wp2_with fail
        go_ret
        exact boolBelow_of HL.out.symm hb
      · go_enter Tryz.func221, Tryz.ntmps221
        go_upto_region 16 with fail
        refine wp_region_quietC (C := fun W => ∃ i, W = g i) (by kernel_rfl) (by kernel_rfl) hc0 ?_
        repeat (go_big_quiet_step (first | (go_at_call 34; exact SN _) | (go_at_call 202; exact SW _)))
        refine wpQuiet_nil ?_
        intro _ hw'
        obtain ⟨V, rfl⟩ := hw'
        have hb := HB.out V
        go_wp2_with fail
        go_ret
        exact boolBelow_of HL.out.symm hb
    | true =>
      rw [hn] at SN
      have HL := Lib.hid (show lf k s = (kw == k) by rw [HL.out, hn]; rfl)
      clear hn
      rcases h26 with rfl | rfl
      · go_enter Tryz.func221, Tryz.ntmps221
        go_upto_region 16 with fail
        refine wp_region_quietC (C := fun W => ∃ i, W = g i) (by kernel_rfl) (by kernel_rfl) hc0 ?_
        repeat (go_big_quiet_step (first | (go_at_call 34; exact SN _) | (go_at_call 202; exact SW _)))
        refine wpQuiet_nil ?_
        intro _ hw'
        obtain ⟨V, rfl⟩ := hw'
        have hb := HB.out V
        go_wp2_with fail
        go_ret
        exact boolBelow_of HL.out.symm hb
      · go_enter Tryz.func221, Tryz.ntmps221
        go_upto_region 16 with fail
        refine wp_region_quietC (C := fun W => ∃ i, W = g i) (by kernel_rfl) (by kernel_rfl) hc0 ?_
        repeat (go_big_quiet_step (first | (go_at_call 34; exact SN _) | (go_at_call 202; exact SW _)))
        refine wpQuiet_nil ?_
        intro _ hw'
        obtain ⟨V, rfl⟩ := hw'
        have hb := HB.out V
        go_wp2_with fail
        go_ret
        exact boolBelow_of HL.out.symm hb
  · have e1 : (k == 1) = false := by simpa using h1
    have e3 : (k == 3) = false := by simpa using h3
    have e4 : (k == 4) = false := by simpa using h4
    have e5 : (k == 5) = false := by simpa using h5
    have e9 : (k == 9) = false := by simpa using h9
    have e2 : (k == 2) = false := by simp; exact fun e => h26 (.inl e)
    have e6 : (k == 6) = false := by simp; exact fun e => h26 (.inr e)
    have HL := Lib.hid (lf_else (s := s) h1 h3 h4 h5 h9 (fun e => h26 (.inl e)) (fun e => h26 (.inr e)))
    clear h1 h3 h4 h5 h9 h26
    go_enter Tryz.func221, Tryz.ntmps221
    go_wp2_with fail
    go_ret
    exact boolBelow_of HL.out.symm (hbA _)

end Go.Proofs.YtibkncgfdhflgaaGreatDoor

/-
  value's nodes: which objects may be read; a leaf's text.
-/
namespace Go.Proofs.YtibkncgfdhflgaaGreatDoor
open Go.RowKit

def NmRdRel (ns : List ByteArray) (w : World) (i : Value) (wr : World) : Prop :=
  ∃ k : Nat, k ≤ ns.length ∧ i = .int .i64 k ∧ Below w.heap.size w wr ∧ Hid (ns.all (fun n => nameB (vbl n)) = (ns.drop k).all (fun n => nameB (vbl n)))

set_option maxHeartbeats 2000000 in
set_option maxRecDepth 100000 in
theorem objectReadable_any (B : Nat) (k : Int) (s : ByteArray) (an : Option Addr) (ns : List ByteArray) (cn : Nat) (ap : Option Addr) (lp cp : Nat) (w : World) (hB : B ≤ w.heap.size) (hl : ns.length ≤ 2000000) (hs : Strs w B an ns) :
    Calls Tryz.prog 220 #[.agg #[.int .i64 k, .string s, .slice an ns.length cn, .slice ap lp cp]] w (BoolBelow (decide (s.size = 0) && decide (ns.length = lp) && ns.all (fun n => nameB (vbl n))) w) := by
  have hbA : ∀ o, Below w.heap.size w (w.alloc o) := fun o => (Below.refl _ w).alloc (Nat.le_refl _) o
  rcases str_cases s with rfl | ⟨e1, HE⟩
  · by_cases hn : ns.length = lp
    · subst hn
      have HU := Lib.hid (show (decide ((⟨#[]⟩ : ByteArray).size = 0) && decide (ns.length = ns.length) && ns.all (fun n => nameB (vbl n))) = ns.all (fun n => nameB (vbl n)) by rw [decide_eq_true rfl]; rfl)
      go_enter Tryz.func220, Tryz.ntmps220
      go_wp2_with fail
      go_loopw [4, 20] (fun _ i wr => NmRdRel ns w i wr) (fun _ i _ => ns.length - (intOf i).toNat)
      case atStart => exact ⟨0, Nat.zero_le _, rfl, hbA _, Lib.hid (by rw [List.drop_zero])⟩
      case round =>
        obtain ⟨k, hk, rfl, hbw, HN⟩ := hrel
        by_cases hlt : k < ns.length
        · obtain ⟨b, off, rfl, hb, hsz, hc⟩ := hs.at_ hlt
          have hcx : wr.cell? ⟨b, off + k, none⟩ = some (.string ns[k]) := (hbw.cell (p := ⟨b, off + k, none⟩) (by show b < _; omega)).trans hc
          have HD := Lib.hid (show (ns.drop k).all (fun n => nameB (vbl n)) = (nameB (vbl ns[k]) && (ns.drop (k + 1)).all (fun n => nameB (vbl n))) by rw [List.drop_eq_getElem_cons hlt, List.all_cons])
          clear hc
          generalize ns[k] = x at *
          have HM := name_any x wr (by unfold maxLen; omega)
          change Calls _ _ _ _ (fun e w' => e = .returned (.bool (nameB (vbl x))) ∧ _) at HM
          cases hv : nameB (vbl x) with
          | false =>
            rw [hv] at HM
            have HF := Lib.hid (show ns.all (fun n => nameB (vbl n)) = false by rw [HN.out, HD.out, hv]; rfl)
            clear hv
            go_wp2_with fail
            refine HM.mono ?_
            rintro e w1 ⟨rfl, b1⟩
            go_wp2_with fail
            go_ret
            exact boolBelow_of (by rw [HU.out, HF.out]) (hbw.trans (b1.mono hbw.size))
          | true =>
            rw [hv] at HM
            have HF := Lib.hid (show ns.all (fun n => nameB (vbl n)) = (ns.drop (k + 1)).all (fun n => nameB (vbl n)) by rw [HN.out, HD.out, hv]; rfl)
            clear hv
            go_wp2_with fail
            refine HM.mono ?_
            rintro e w1 ⟨rfl, b1⟩
            go_wp2_with fail
            go_roundw
            case rel => exact ⟨k + 1, by omega, by go_num, hbw.trans (b1.mono hbw.size), Lib.hid HF.out⟩
            case measure => simp [intOf]; omega
        · have HF := Lib.hid (show ns.all (fun n => nameB (vbl n)) = true by rw [HN.out, List.drop_of_length_le (by omega)]; rfl)
          go_wp2_with fail
          go_ret
          exact boolBelow_of (by rw [HU.out, HF.out]) hbw
    · have e2 : ((ns.length : Int) == (lp : Int)) = false := by rw [beq_eq_false_iff_ne]; omega
      have HN := Lib.hid (show (decide ((⟨#[]⟩ : ByteArray).size = 0) && decide (ns.length = lp) && ns.all (fun n => nameB (vbl n))) = false by rw [decide_eq_false hn, Bool.and_false, Bool.false_and])
      clear hn
      go_enter Tryz.func220, Tryz.ntmps220
      go_wp2_with fail
      go_ret
      exact boolBelow_of HN.out.symm (hbA _)
  · have HN := Lib.hid (show (decide (s.size = 0) && decide (ns.length = lp) && ns.all (fun n => nameB (vbl n))) = false by
      have h := HE.out
      have : s.size ≠ 0 := fun e => by
        have e2 : vbl s = [] := List.eq_nil_of_length_eq_zero e
        rw [e2] at h
        cases h
      rw [decide_eq_false this, Bool.false_and, Bool.false_and])
    go_enter Tryz.func220, Tryz.ntmps220
    go_wp2_with fail
    go_ret
    exact boolBelow_of HN.out.symm (hbA _)

theorem vbl_append (a b : ByteArray) : vbl (a ++ b) = vbl a ++ vbl b := by
  unfold vbl
  rw [ByteArray.data_append, Array.toList_append]

def TextOf (x : JV) (w : World) (e : Ending) (w' : World) : Prop := ∃ t : ByteArray, e = .returned (.string t) ∧ vbl t = leafT x ∧ Below w.heap.size w w'

set_option maxHeartbeats 1000000 in
theorem leafText_any (k : Int) (s : ByteArray) (an : Option Addr) (ln cn : Nat) (ap : Option Addr) (lp cp : Nat) (w : World) (hs : s.size ≤ 2000000) :
    Calls Tryz.prog 165 #[.agg #[.int .i64 k, .string s, .slice an ln cn, .slice ap lp cp]] w (TextOf (.mk k s [] []) w) := by
  have hbA : ∀ o, Below w.heap.size w (w.alloc o) := fun o => (Below.refl _ w).alloc (Nat.le_refl _) o
  by_cases h1 : k = 1
  · subst h1
    go_enter Tryz.func165, Tryz.ntmps165
    go_wp2_with fail
    go_ret
    exact ⟨_, rfl, rfl, hbA _⟩
  by_cases h5 : k = 5
  · subst h5
    have HQ := quote_any s (w.alloc (.cells #[.int .i64 5, .string s, .slice an ln cn, .slice ap lp cp] 174)) (by omega)
    have hb0 := hbA (.cells #[.int .i64 5, .string s, .slice an ln cn, .slice ap lp cp] 174)
    go_enter Tryz.func165, Tryz.ntmps165
    go_wp2_with fail
    refine HQ.mono ?_
    rintro e w1 ⟨rfl, b1⟩
    go_wp2_with fail
    go_ret
    exact ⟨_, rfl, rfl, hb0.trans (b1.mono (by simp))⟩
  by_cases h9 : k = 9
  · subst h9
    go_enter Tryz.func165, Tryz.ntmps165
    go_wp2_with fail
    go_ret
    exact ⟨_, rfl, by rw [vbl_append]; rfl, hbA _⟩
  have e1 : (k == 1) = false := by simpa using h1
  have e5 : (k == 5) = false := by simpa using h5
  have e9 : (k == 9) = false := by simpa using h9
  have HL := Lib.hid (show leafT (.mk k s [] []) = vbl s by unfold leafT; rw [if_neg (show ¬ (JV.mk k s [] []).k = 1 from h1), if_neg (show ¬ (JV.mk k s [] []).k = 5 from h5), if_neg (show ¬ (JV.mk k s [] []).k = 9 from h9)]; rfl)
  clear h1 h5 h9
  go_enter Tryz.func165, Tryz.ntmps165
  go_wp2_with fail
  go_ret
  exact ⟨_, rfl, HL.out.symm, hbA _⟩

end Go.Proofs.YtibkncgfdhflgaaGreatDoor
