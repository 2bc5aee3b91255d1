/-
  Types that may be, their texts; what value.Type answers.
-/
import Derived.Test.YtkfllppggjhhmaaGreatDoorMV7
import Derived.Test.YtkfllppggjhhmaaGreatDoorMV10
import Derived.Test.YtkfllppggjhhmaaGreatDoorMV13
import Derived.Test.YtkfllppggjhhmaaGreatDoorMShelf
import Derived.Shelf.Strings.SlTrimAscii
import Derived.Lib.Repeat
import Derived.Test.YtkfllppggjhhmaaGreatDoorMPwc
import Derived.Test.YtkfllppggjhhmaaGreatDoorMV4
import Derived.Deep.RegionWith
namespace Go.Proofs.YtkfllppggjhhmaaGreatDoor
open Go.RowKit

/-! ### what the library's functions say of a type's wraps -/
def wrP (b : UInt8) : Bool := b == 33 || b == 93
theorem wrC (b : UInt8) : ([33, 93] : List UInt8).contains b = wrP b := by
  unfold wrP
  rw [List.contains_cons, List.contains_cons, List.contains_nil, Bool.or_false]
theorem drop_nil (p : UInt8 → Bool) : ∀ l : List UInt8, l.dropWhile p = [] ↔ l.all p = true
  | [] => by simp
  | b :: r => by
    rw [List.dropWhile_cons, List.all_cons]
    cases h : p b with
    | true => rw [if_pos rfl, drop_nil p r]; simp
    | false => rw [if_neg (by decide)]; simp
theorem drop_head (p : UInt8 → Bool) : ∀ (l : List UInt8) (b : UInt8) (r : List UInt8), l.dropWhile p = b :: r → p b = false
  | [], _, _, h => by simp at h
  | c :: l, b, r, h => by
    rw [List.dropWhile_cons] at h
    cases hc : p c with
    | true => rw [hc, if_pos rfl] at h; exact drop_head p l b r h
    | false =>
      rw [hc, if_neg (by decide)] at h
      injection h with h1 _
      rw [← h1]; exact hc
theorem trim_nil (l : List UInt8) : Lib.trimS l [33, 93] = [] ↔ l.all wrP = true := by
  have e : (fun x => ([33, 93] : List UInt8).contains x) = wrP := funext wrC
  unfold Lib.trimS Lib.trimLeftS Lib.trimRightS
  rw [e, drop_nil]
  constructor
  · intro h
    cases hd : l.reverse.dropWhile wrP with
    | nil =>
      have := (drop_nil wrP l.reverse).1 hd
      rwa [List.all_reverse] at this
    | cons b r =>
      have hb := drop_head wrP _ b r hd
      rw [hd, List.all_reverse, List.all_cons, hb, Bool.false_and] at h
      cases h
  · intro h
    have : l.reverse.dropWhile wrP = [] := (drop_nil wrP _).2 (by rw [List.all_reverse]; exact h)
    rw [this]; rfl
theorem contains_cons' (b : UInt8) (l sub : List UInt8) : Lib.contains (b :: l) sub = (sub.isPrefixOf (b :: l) || Lib.contains l sub) := by
  unfold Lib.contains
  rw [Lib.index]
  cases hp : sub.isPrefixOf (b :: l) with
  | true => rw [if_pos rfl]; rfl
  | false =>
    rw [if_neg (by decide), Bool.false_or]
    have h1 := Lib.index_ge l sub
    by_cases h : Lib.index l sub = -1
    · rw [h]; rfl
    · rw [if_neg (by simpa using h)]
      congr 1
      exact propext ⟨fun _ => by omega, fun _ => by omega⟩
theorem wr_eq : ∀ l : List UInt8, wrOk l = (l.all wrP && !Lib.contains l [33, 33])
  | [] => by rfl
  | [b] => by
    rw [contains_cons', List.all_cons]
    unfold wrOk
    have h1 : ([33, 33] : List UInt8).isPrefixOf [b] = false := by simp [List.isPrefixOf]
    have h2 : Lib.contains [] [33, 33] = false := by rfl
    rw [h1, h2]
    simp [wrP]
  | b :: c :: r => by
    rw [contains_cons', List.all_cons]
    unfold wrOk
    rw [wr_eq (c :: r)]
    have h1 : ([33, 33] : List UInt8).isPrefixOf (b :: c :: r) = (b == 33 && c == 33) := by
      simp only [List.isPrefixOf, Bool.and_true]
      rw [show ((33 : UInt8) == b) = (b == 33) from by rw [Bool.eq_iff_iff, beq_iff_eq, beq_iff_eq]; exact eq_comm, show ((33 : UInt8) == c) = (c == 33) from by rw [Bool.eq_iff_iff, beq_iff_eq, beq_iff_eq]; exact eq_comm]
    rw [h1]
    show (wrP b && !(b == 33 && c == 33) && ((c :: r).all wrP && !Lib.contains (c :: r) [33, 33])) = _
    cases wrP b <;> cases (b == 33 && c == 33) <;> cases ((c :: r).all wrP) <;> cases (Lib.contains (c :: r) [33, 33]) <;> rfl
theorem cnt_eq : ∀ l : List UInt8, Lib.countByte l 93 = cnt93 l
  | [] => rfl
  | b :: r => by
    show (b :: r).count 93 = (if b == 93 then 1 else 0) + cnt93 r
    rw [List.count_cons, ← cnt_eq r]
    show r.count 93 + _ = _ + r.count 93
    omega
theorem tyOk_eq (n ws : List UInt8) : tyOk n ws = (nameB n && (ws.all wrP && (!Lib.contains ws [33, 33] && decide (cnt93 ws ≤ 12)))) := by
  unfold tyOk
  rw [wr_eq, Bool.and_assoc]

theorem at_maxlen {w W : World} (hm : ∃ m, w.cell? ⟨0, 0, none⟩ = some (.int .i64 m)) (hb : Below w.heap.size w W) : ∃ m, W.cell? ⟨0, 0, none⟩ = some (.int .i64 m) := by
  obtain ⟨m, h⟩ := hm
  exact ⟨m, (hb.cell (p := ⟨0, 0, none⟩) (cell_lt h)).trans h⟩

set_option maxHeartbeats 4000000 in
set_option maxRecDepth 100000 in
theorem checkType_any (n s : ByteArray) (w : World) (hn : n.size ≤ 2000000) (hs : s.size ≤ 2000000) (hm : ∃ m, w.cell? ⟨0, 0, none⟩ = some (.int .i64 m)) :
    Calls Tryz.prog 98 #[.agg #[.string n, .string s]] w (BoolBelow (tyOk (vbl n) (vbl s)) w) := by
  have hb0 : Below w.heap.size w (w.alloc (.cells #[.string n, .string s] 57)) := (Below.refl _ w).alloc (Nat.le_refl _) _
  have hz0 : (w.alloc (.cells #[.string n, .string s] 57)).heap.size = w.heap.size + 1 := by simp
  have hbx : (w.alloc (.cells #[.string n, .string s] 57)).heap[w.heap.size]? = some (.cells #[.string n, .string s] 57 (0, 0)) := heap_alloc_new _ _
  have F : ∀ W, Below (w.alloc (.cells #[.string n, .string s] 57)).heap.size (w.alloc (.cells #[.string n, .string s] 57)) W → W.cell? ⟨w.heap.size, 0, none⟩ = some (.string n) ∧ W.cell? ⟨w.heap.size, 1, none⟩ = some (.string s) ∧ Below w.heap.size w W := fun W hW => by
    have hk := (hW.block w.heap.size (by rw [hz0]; omega)).trans hbx
    exact ⟨Lib.cell_of_heap hk 0, Lib.cell_of_heap hk 1, hb0.trans (hW.mono (by rw [hz0]; omega))⟩
  have HM := Lib.hid hm
  have HF := Lib.hid F
  have HU := Lib.hid (tyOk_eq (vbl n) (vbl s))
  have HN := name_any n (w.alloc (.cells #[.string n, .string s] 57)) (by unfold maxLen; omega)
  change Calls _ _ _ _ (fun e w' => e = .returned (.bool (nameB (vbl n))) ∧ _) at HN
  clear hm F hbx
  cases hnm : nameB (vbl n) with
  | false =>
    rw [hnm] at HN
    have HR := Lib.hid (show tyOk (vbl n) (vbl s) = false by rw [HU.out, hnm]; rfl)
    clear hnm
    go_enter Tryz.func98, Tryz.ntmps98
    go_wp2_with fail
    refine HN.mono ?_
    rintro e w1 ⟨rfl, b1⟩
    obtain ⟨c0, c1, hb⟩ := HF.out w1 b1
    go_wp2_with fail
    go_ret
    exact boolBelow_of HR.out.symm hb
  | true =>
    rw [hnm] at HN
    have HU2 := Lib.hid (show tyOk (vbl n) (vbl s) = ((vbl s).all wrP && (!Lib.contains (vbl s) [33, 33] && decide (cnt93 (vbl s) ≤ 12))) by rw [HU.out, hnm]; rfl)
    have HT := fun W => Any.strings_Trim_laid Tryz.lays160 (by kernel_rfl) s ⟨#[33, 93]⟩ W (by omega) (by decide) (ascii_of_all (by decide))
    clear hnm HU
    by_cases hall : (vbl s).all wrP = true
    · have ht : vbl (⟨(Lib.trimS s.data.toList [33, 93]).toArray⟩ : ByteArray) = [] := (trim_nil (vbl s)).2 hall
      change ∀ W, Calls _ _ _ W (fun e w' => e = .returned (.string (⟨(Lib.trimS s.data.toList [33, 93]).toArray⟩ : ByteArray)) ∧ _) at HT
      generalize (⟨(Lib.trimS s.data.toList [33, 93]).toArray⟩ : ByteArray) = TR at *
      have e1 := toList_yes ht
      have HU3 := Lib.hid (show tyOk (vbl n) (vbl s) = (!Lib.contains (vbl s) [33, 33] && decide (cnt93 (vbl s) ≤ 12)) by rw [HU2.out, hall]; rfl)
      clear ht hall HU2
      have HC := fun (W : World) m => Tryz.strings_Contains s ⟨#[33, 33]⟩ m W (by omega)
      change ∀ (W : World) m, W.cell? ⟨0, 0, none⟩ = some (.int .i64 m) → Calls _ _ _ W (fun e w' => e = .returned (.bool (Lib.contains (vbl s) [33, 33])) ∧ w' = W) at HC
      go_enter Tryz.func98, Tryz.ntmps98
      go_wp2_with fail
      refine HN.mono ?_
      rintro e w1 ⟨rfl, b1⟩
      obtain ⟨c0, c1, hb⟩ := HF.out w1 b1
      have B1 := Lib.hid b1
      clear b1
      go_wp2_with fail
      refine (HT _).mono ?_
      rintro e w2 ⟨rfl, b2⟩
      have b12 := B1.out.trans (b2.mono B1.out.size)
      obtain ⟨d0, d1, hb2⟩ := HF.out w2 b12
      obtain ⟨m, hm2⟩ := at_maxlen HM.out hb2
      have HC2 := HC w2 m hm2
      clear b2 b12 HT HN
      cases hct : Lib.contains (vbl s) [33, 33] with
      | true =>
        rw [hct] at HC2
        have HR := Lib.hid (show tyOk (vbl n) (vbl s) = false by rw [HU3.out, hct]; rfl)
        clear hct
        go_wp2_with fail
        refine HC2.mono ?_
        rintro e w3 ⟨rfl, rfl⟩
        go_wp2_with fail
        go_ret
        exact boolBelow_of HR.out.symm hb2
      | false =>
        rw [hct] at HC2
        have HR := Lib.hid (show tyOk (vbl n) (vbl s) = decide (cnt93 (vbl s) ≤ 12) by rw [HU3.out, hct]; rfl)
        have HK := Tryz.strings_Count_one s 93 w2
        rw [show Lib.countByte s.data.toList 93 = cnt93 (vbl s) from cnt_eq _] at HK
        clear hct
        generalize cnt93 (vbl s) = c at *
        go_wp2_with fail
        refine HC2.mono ?_
        rintro e w3 ⟨rfl, rfl⟩
        go_wp2_with fail
        refine HK.mono ?_
        rintro e w4 ⟨rfl, rfl⟩
        by_cases hc : c ≤ 12
        · have hd : decide ((c : Int) ≤ 12) = true := decide_eq_true (by omega)
          have HR2 := Lib.hid (show tyOk (vbl n) (vbl s) = true by rw [HR.out]; exact decide_eq_true hc)
          clear hc
          go_wp2_with fail
          go_ret
          exact boolBelow_of HR2.out.symm hb2
        · have hd : decide ((c : Int) ≤ 12) = false := decide_eq_false (by omega)
          have HR2 := Lib.hid (show tyOk (vbl n) (vbl s) = false by rw [HR.out]; exact decide_eq_false hc)
          clear hc
          go_wp2_with fail
          go_ret
          exact boolBelow_of HR2.out.symm hb2
    · have hall : (vbl s).all wrP = false := by simpa using hall
      have ht : vbl (⟨(Lib.trimS s.data.toList [33, 93]).toArray⟩ : ByteArray) ≠ [] := fun h => by
        have := (trim_nil (vbl s)).1 h
        rw [hall] at this
        cases this
      change ∀ W, Calls _ _ _ W (fun e w' => e = .returned (.string (⟨(Lib.trimS s.data.toList [33, 93]).toArray⟩ : ByteArray)) ∧ _) at HT
      generalize (⟨(Lib.trimS s.data.toList [33, 93]).toArray⟩ : ByteArray) = TR at *
      have e1 := toList_no ht
      have HR := Lib.hid (show tyOk (vbl n) (vbl s) = false by rw [HU2.out, hall]; rfl)
      clear ht hall HU2
      go_enter Tryz.func98, Tryz.ntmps98
      go_wp2_with fail
      refine HN.mono ?_
      rintro e w1 ⟨rfl, b1⟩
      obtain ⟨c0, c1, hb⟩ := HF.out w1 b1
      have B1 := Lib.hid b1
      clear b1
      go_wp2_with fail
      refine (HT _).mono ?_
      rintro e w2 ⟨rfl, b2⟩
      obtain ⟨d0, d1, hb2⟩ := HF.out w2 (B1.out.trans (b2.mono B1.out.size))
      clear b2 HT HN
      go_wp2_with fail
      go_ret
      exact boolBelow_of HR.out.symm hb2

end Go.Proofs.YtkfllppggjhhmaaGreatDoor
/-
  A type's text; what value.Type answers.
-/
namespace Go.Proofs.YtkfllppggjhhmaaGreatDoor
open Go.RowKit

def tyTextB (n ws : List UInt8) : List UInt8 := if tyOk n ws then tyText n ws else []
theorem repeat_rep : ∀ c : Nat, Lib.repeatL [91] c = List.replicate c 91
  | 0 => rfl
  | c + 1 => by rw [Lib.repeatL, repeat_rep c, List.replicate_succ]; rfl

set_option maxHeartbeats 4000000 in
set_option maxRecDepth 100000 in
theorem typeText_any (n s : ByteArray) (w : World) (hn : n.size ≤ 2000000) (hs : s.size ≤ 2000000) (hm : ∃ m, w.cell? ⟨0, 0, none⟩ = some (.int .i64 m)) :
    Calls Tryz.prog 155 #[.agg #[.string n, .string s]] w (StrBelow w (tyTextB (vbl n) (vbl s))) := by
  have hb0 : Below w.heap.size w (w.alloc (.cells #[.string n, .string s] 57)) := (Below.refl _ w).alloc (Nat.le_refl _) _
  have hz0 : (w.alloc (.cells #[.string n, .string s] 57)).heap.size = w.heap.size + 1 := by simp
  have hbx : (w.alloc (.cells #[.string n, .string s] 57)).heap[w.heap.size]? = some (.cells #[.string n, .string s] 57 (0, 0)) := heap_alloc_new _ _
  have F : ∀ W, Below (w.alloc (.cells #[.string n, .string s] 57)).heap.size (w.alloc (.cells #[.string n, .string s] 57)) W → W.cell? ⟨w.heap.size, 0, none⟩ = some (.string n) ∧ W.cell? ⟨w.heap.size, 1, none⟩ = some (.string s) ∧ Below w.heap.size w W := fun W hW => by
    have hk := (hW.block w.heap.size (by rw [hz0]; omega)).trans hbx
    exact ⟨Lib.cell_of_heap hk 0, Lib.cell_of_heap hk 1, hb0.trans (hW.mono (by rw [hz0]; omega))⟩
  have HF := Lib.hid F
  have HC := checkType_any n s (w.alloc (.cells #[.string n, .string s] 57)) hn hs (at_maxlen hm hb0)
  have HU := Lib.hid (show tyTextB (vbl n) (vbl s) = if tyOk (vbl n) (vbl s) then tyText (vbl n) (vbl s) else [] from rfl)
  clear hm F hbx hb0
  cases hok : tyOk (vbl n) (vbl s) with
  | false =>
    rw [hok] at HC
    have HR := Lib.hid (show tyTextB (vbl n) (vbl s) = [] by rw [HU.out, hok]; rfl)
    clear hok
    go_enter Tryz.func155, Tryz.ntmps155
    go_wp2_with fail
    refine HC.mono ?_
    rintro e w1 ⟨rfl, b1⟩
    obtain ⟨c0, c1, hb⟩ := HF.out w1 b1
    go_wp2_with fail
    go_ret
    exact strBelow_mk (l := []) HR.out.symm hb
  | true =>
    rw [hok] at HC
    have hc12 : cnt93 (vbl s) ≤ 12 := by
      unfold tyOk at hok
      rw [Bool.and_eq_true, Bool.and_eq_true, decide_eq_true_eq] at hok
      exact hok.2.2
    have HR := Lib.hid (show tyTextB (vbl n) (vbl s) = List.replicate (cnt93 (vbl s)) 91 ++ (vbl n ++ vbl s) by rw [HU.out, hok]; rfl)
    have HK : ∀ W, Calls Tryz.prog 151 #[.string s, .string ⟨#[93]⟩] W fun e w' => e = .returned (.int .i64 (cnt93 (vbl s) : Nat)) ∧ w' = W := fun W => by
      have := Tryz.strings_Count_one s 93 W
      rwa [show Lib.countByte s.data.toList 93 = cnt93 (vbl s) from cnt_eq _] at this
    have HP : ∀ W, Calls Tryz.prog 210 #[.string ⟨#[91]⟩, .int .i64 (cnt93 (vbl s) : Nat)] W fun e w' => e = .returned (.string ⟨(List.replicate (cnt93 (vbl s)) 91).toArray⟩) ∧ Below W.heap.size W w' := fun W => by
      have := Tryz.strings_Repeat ⟨#[91]⟩ (cnt93 (vbl s)) W (by omega) (by show 1 * cnt93 (vbl s) ≤ _; omega)
      rwa [show (⟨#[91]⟩ : ByteArray).data.toList = [91] from rfl, repeat_rep] at this
    have hrz : (⟨(List.replicate (cnt93 (vbl s)) 91).toArray⟩ : ByteArray).size ≤ 12 := by show (List.replicate (cnt93 (vbl s)) (91 : UInt8)).length ≤ 12; rw [List.length_replicate]; exact hc12
    have hrv : vbl (⟨(List.replicate (cnt93 (vbl s)) 91).toArray⟩ : ByteArray) = List.replicate (cnt93 (vbl s)) 91 := rfl
    rw [← hrv] at HR
    generalize (⟨(List.replicate (cnt93 (vbl s)) 91).toArray⟩ : ByteArray) = RP at *
    generalize cnt93 (vbl s) = c at *
    clear hok hrv HU
    go_enter Tryz.func155, Tryz.ntmps155
    go_wp2_with fail
    refine HC.mono ?_
    rintro e w1 ⟨rfl, b1⟩
    obtain ⟨c0, c1, hb⟩ := HF.out w1 b1
    have hz1 : RP.size + n.size ≤ 3000000 := by omega
    have hz2 : (RP ++ n).size ≤ 3000000 := by rw [ByteArray.size_append]; omega
    obtain ⟨I, g, hNE, hG1, hG2⟩ : ∃ (I : Type) (g : I → World), Nonempty I ∧ (∀ i, Below w1.heap.size w1 (g i)) ∧ ∀ V, Below w1.heap.size w1 V → ∃ i, V = g i := ⟨{V // Below w1.heap.size w1 V}, Subtype.val, ⟨⟨w1, Below.refl _ _⟩⟩, fun i => i.2, fun V h => ⟨⟨V, h⟩, rfl⟩⟩
    have hw1 : w.heap.size < w1.heap.size := by have := b1.size; rw [hz0] at this; omega
    have f0 : ∀ i, (g i).cell? ⟨w.heap.size, 0, none⟩ = some (.string n) := fun i => ((hG1 i).cell (p := ⟨w.heap.size, 0, none⟩) hw1).trans c0
    have f1 : ∀ i, (g i).cell? ⟨w.heap.size, 1, none⟩ = some (.string s) := fun i => ((hG1 i).cell (p := ⟨w.heap.size, 1, none⟩) hw1).trans c1
    have HB := Lib.hid (fun i => hb.trans ((hG1 i).mono hb.size))
    have hc0 := hG2 _ (Below.refl w1.heap.size w1).drew
    have SK : ∀ i, Calls Tryz.prog 151 #[.string s, .string ⟨#[93]⟩] (g i) fun e w' => e = .returned (.int .i64 (c : Nat)) ∧ ∃ i', w' = g i' := fun i => (HK _).mono (fun e w7 he => ⟨he.1, i, he.2⟩)
    have SP : ∀ i, Calls Tryz.prog 210 #[.string ⟨#[91]⟩, .int .i64 (c : Nat)] (g i) fun e w' => e = .returned (.string RP) ∧ ∃ i', w' = g i' := fun i => (HP _).mono (fun e w7 he => ⟨he.1, hG2 _ ((hG1 i).trans (he.2.mono (hG1 i).size))⟩)
    clear hG1 hG2 HK HP HC b1 hb c0 c1 hw1 hz0
    go_upto_region 3 with fail
    refine wp_region_quietC (C := fun W => ∃ i, W = g i) (by kernel_rfl) (by kernel_rfl) hc0 ?_
    repeat (go_big_quiet_step (first | (go_at_call 151; exact SK _) | (go_at_call 210; exact SP _)))
    refine wpQuiet_nil ?_
    intro _ hw'
    obtain ⟨i, rfl⟩ := hw'
    have hb := HB.out i
    go_wp2_with fail
    go_ret
    rw [HR.out]
    refine ⟨?_, hb⟩
    have e : (RP ++ n) ++ s = ⟨(vbl RP ++ (vbl n ++ vbl s)).toArray⟩ := of_vbl (by rw [vbl_append, vbl_append, List.append_assoc])
    show Ending.returned (.string ((RP ++ n) ++ s)) = _
    rw [e]

theorem Bt.twoA {W : World} {B : Nat} (h : Bt W B) (hlt : B < W.heap.size) (c0 c1 : Value) (o : Obj) : (((W.setCell ⟨B, 0, none⟩ c0).setCell ⟨B, 1, none⟩ c1).alloc o).cell? ⟨B, 0, none⟩ = some c0 ∧ (((W.setCell ⟨B, 0, none⟩ c0).setCell ⟨B, 1, none⟩ c1).alloc o).cell? ⟨B, 1, none⟩ = some c1 := by
  obtain ⟨k0, k1⟩ := h.two c0 c1
  have c : ∀ j, (((W.setCell ⟨B, 0, none⟩ c0).setCell ⟨B, 1, none⟩ c1).alloc o).cell? ⟨B, j, none⟩ = ((W.setCell ⟨B, 0, none⟩ c0).setCell ⟨B, 1, none⟩ c1).cell? ⟨B, j, none⟩ := fun j => World.cell?_of_block (a := ⟨B, j, none⟩) (Below.heap_alloc _ _ _ (by rw [size_two]; exact hlt))
  exact ⟨(c 0).trans k0, (c 1).trans k1⟩

end Go.Proofs.YtkfllppggjhhmaaGreatDoor
/-
  print's writer: variables.
-/
namespace Go.Proofs.YtkfllppggjhhmaaGreatDoor
open Go.RowKit
set_option linter.unusedVariables false

set_option maxHeartbeats 1500000 in
set_option maxRecDepth 100000 in
theorem pVarW_0 {N R k : Nat} {D : Nat → Prop} {x : VarT} {cs : List Value} {s : Ws} (w : World) (h : Wv N R k s w) (hE : VarE w D x cs) (hD : ∀ b, D b → b < N) (hlen : (varW x s).out.length ≤ 140737488355328) (hdk : (x.dflt.k = 0) = True) : Calls Tryz.prog 110 #[.pointer (some ⟨R, 0, none⟩), .agg cs.toArray] w (WAns N R k (varW x s) w) := by
  obtain ⟨⟨hz1, hz2, hz3, hvs⟩, c0, c1, c2, c3, rfl, hR⟩ := hE
  obtain ⟨an, cn, ap, cp, hsh⟩ := hR.shape
  obtain ⟨rfl, rfl, rfl, rfl⟩ := agg4_inj' hsh
  clear hsh
  have HDD := Lib.hid hD
  have HV := Lib.hid hR
  have HVS := Lib.hid hvs
  have HM := Lib.hid (show varW x s = wrs [[36], x.nm, [58], tyTx x.ty.1 x.ty.2] s by unfold varW; rw [if_pos (by rw [hdk]; trivial)])
  have hl5 : (wrs [[36], x.nm, [58], tyTx x.ty.1 x.ty.2] s).out.length ≤ 140737488355328 := by rw [← HM.out]; exact hlen
  have hl2 := hl5
  have hl1 := hl5
  have hk0 : (x.dflt.k == 0) = true := by
    have : x.dflt.k = 0 := by rw [hdk]; trivial
    simpa using this
  have hk1 : (x.dflt.k != 0) = false := by unfold bne; rw [hk0]; rfl
  have HL := Lib.hid (And.intro hl1 (And.intro hl2 hl5))
  have HW0 := Lib.hid ((Wk.refl h).alloc (.cells #[.string ⟨x.nm.toArray⟩, .string ⟨x.ty.1.toArray⟩, .string ⟨x.ty.2.toArray⟩, .int .i64 x.dflt.k, .string x.dflt.s, .slice an x.dflt.ns.length cn, .slice ap x.dflt.ps.length cp] 59))
  have HB0 := Lib.hid (show (w.alloc (.cells #[.string ⟨x.nm.toArray⟩, .string ⟨x.ty.1.toArray⟩, .string ⟨x.ty.2.toArray⟩, .int .i64 x.dflt.k, .string x.dflt.s, .slice an x.dflt.ns.length cn, .slice ap x.dflt.ps.length cp] 59)).heap[w.heap.size]? = some (.cells #[.string ⟨x.nm.toArray⟩, .string ⟨x.ty.1.toArray⟩, .string ⟨x.ty.2.toArray⟩, .int .i64 x.dflt.k, .string x.dflt.s, .slice an x.dflt.ns.length cn, .slice ap x.dflt.ps.length cp] 59 (0, 0)) from heap_alloc_new _ _)
  have hlR := h.lt
  have hbR : w.heap.size ≠ R := by omega
  have HT := typeText_any ⟨x.ty.1.toArray⟩ ⟨x.ty.2.toArray⟩ (w.alloc (.cells #[.string ⟨x.nm.toArray⟩, .string ⟨x.ty.1.toArray⟩, .string ⟨x.ty.2.toArray⟩, .int .i64 x.dflt.k, .string x.dflt.s, .slice an x.dflt.ns.length cn, .slice ap x.dflt.ps.length cp] 59)).drew hz2 hz3 HW0.out.1.mx.2
  have HD0 := Lib.hid (show Below (w.alloc (.cells #[.string ⟨x.nm.toArray⟩, .string ⟨x.ty.1.toArray⟩, .string ⟨x.ty.2.toArray⟩, .int .i64 x.dflt.k, .string x.dflt.s, .slice an x.dflt.ns.length cn, .slice ap x.dflt.ps.length cp] 59)).heap.size (w.alloc (.cells #[.string ⟨x.nm.toArray⟩, .string ⟨x.ty.1.toArray⟩, .string ⟨x.ty.2.toArray⟩, .int .i64 x.dflt.k, .string x.dflt.s, .slice an x.dflt.ns.length cn, .slice ap x.dflt.ps.length cp] 59)) (w.alloc (.cells #[.string ⟨x.nm.toArray⟩, .string ⟨x.ty.1.toArray⟩, .string ⟨x.ty.2.toArray⟩, .int .i64 x.dflt.k, .string x.dflt.s, .slice an x.dflt.ns.length cn, .slice ap x.dflt.ps.length cp] 59)).drew from (Below.refl _ _).drew)
  have HTB := Lib.hid (show tyTextB (vbl ⟨x.ty.1.toArray⟩) (vbl ⟨x.ty.2.toArray⟩) = tyTx x.ty.1 x.ty.2 from rfl)
  generalize tyTextB (vbl ⟨x.ty.1.toArray⟩) (vbl ⟨x.ty.2.toArray⟩) = tb at *
  have HF := Lib.hid (fun w1 (hb1 : Below (w.alloc (.cells #[.string ⟨x.nm.toArray⟩, .string ⟨x.ty.1.toArray⟩, .string ⟨x.ty.2.toArray⟩, .int .i64 x.dflt.k, .string x.dflt.s, .slice an x.dflt.ns.length cn, .slice ap x.dflt.ps.length cp] 59)).drew.heap.size (w.alloc (.cells #[.string ⟨x.nm.toArray⟩, .string ⟨x.ty.1.toArray⟩, .string ⟨x.ty.2.toArray⟩, .int .i64 x.dflt.k, .string x.dflt.s, .slice an x.dflt.ns.length cn, .slice ap x.dflt.ps.length cp] 59)).drew w1) => bk7 ((hb1.block w.heap.size (by show w.heap.size < (w.alloc (.cells #[.string ⟨x.nm.toArray⟩, .string ⟨x.ty.1.toArray⟩, .string ⟨x.ty.2.toArray⟩, .int .i64 x.dflt.k, .string x.dflt.s, .slice an x.dflt.ns.length cn, .slice ap x.dflt.ps.length cp] 59)).heap.size; simp)).trans HB0.out))
  have HCF := Lib.hid (fun w1 (hb1 : Below (w.alloc (.cells #[.string ⟨x.nm.toArray⟩, .string ⟨x.ty.1.toArray⟩, .string ⟨x.ty.2.toArray⟩, .int .i64 x.dflt.k, .string x.dflt.s, .slice an x.dflt.ns.length cn, .slice ap x.dflt.ps.length cp] 59)).drew.heap.size (w.alloc (.cells #[.string ⟨x.nm.toArray⟩, .string ⟨x.ty.1.toArray⟩, .string ⟨x.ty.2.toArray⟩, .int .i64 x.dflt.k, .string x.dflt.s, .slice an x.dflt.ns.length cn, .slice ap x.dflt.ps.length cp] 59)).drew w1) => have hk1 := HW0.out.below (HD0.out.trans hb1); have hT := txFour (v := ⟨#[36]⟩) (u := ⟨x.nm.toArray⟩) (x := ⟨#[58]⟩) (y := ⟨tb.toArray⟩) hk1; And.intro hk1 (And.intro hT.1 (show Calls Tryz.prog 69 #[.pointer (some ⟨R, 0, none⟩), .slice (some ⟨w1.heap.size, 0, none⟩) 4 4] (w1.alloc (.cells #[.string ⟨#[36]⟩, .string ⟨x.nm.toArray⟩, .string ⟨#[58]⟩, .string ⟨tb.toArray⟩] 9)) (WAns N R k (wrs [[36], x.nm, [58], tb] s) _) from write_any (l := [⟨#[36]⟩, ⟨x.nm.toArray⟩, ⟨#[58]⟩, ⟨tb.toArray⟩]) (cap := 4) _ hT.1.1 hT.2 (show 4 ≤ 100 by decide) (Nat.le_refl _) (by rw [← HTB.out] at HL; exact HL.out.1))))
  clear h hR hD hlen hl1 hl2 hl5 hvs
  generalize varW x s = RES at *
  show Calls Tryz.prog 110 #[.pointer (some ⟨R, 0, none⟩), .agg #[.string ⟨x.nm.toArray⟩, .string ⟨x.ty.1.toArray⟩, .string ⟨x.ty.2.toArray⟩, .int .i64 x.dflt.k, .string x.dflt.s, .slice an x.dflt.ns.length cn, .slice ap x.dflt.ps.length cp]] w _
  go_enter Tryz.func110, Tryz.ntmps110
  go_wp2_with fail
  go_upto_region 1 with fail
  go_region_with (first
    | ((go_at_call 155); (with_reducible refine HT.mono ?_); rintro e w1 ⟨rfl, hb1⟩; obtain ⟨g0, g1, g2, g3, g4, g5, g6, gf, gl⟩ := HF.out w1 hb1; have HB1 := Lib.hid hb1; clear hb1)
    | ((go_at_call 69); (with_reducible refine (HCF.out w1 HB1.out).2.2.mono ?_); rintro e w2 ⟨rfl, hk2⟩; have HK2 := Lib.hid hk2; clear hk2))
  all_goals
    have HC1 := HCF.out w1 HB1.out
    have HW2 : Hid (Wk N R k (wrs [[36], x.nm, [58], tyTx x.ty.1 x.ty.2] s) w w2) := Lib.hid (by
      have := HC1.1.trans (HC1.2.1.trans HK2.out)
      rw [HTB.out] at this
      exact this)
    have HB2 := Lib.hid ((HC1.2.1.trans HK2.out).box (((HB1.out).block w.heap.size (by show w.heap.size < (w.alloc (.cells #[.string ⟨x.nm.toArray⟩, .string ⟨x.ty.1.toArray⟩, .string ⟨x.ty.2.toArray⟩, .int .i64 x.dflt.k, .string x.dflt.s, .slice an x.dflt.ns.length cn, .slice ap x.dflt.ps.length cp] 59)).heap.size; simp)).trans HB0.out) (by decide) hbR)
    clear HC1 HK2
    obtain ⟨q0, q1, q2, q3, q4, q5, q6, qf, hbl⟩ := bk7 HB2.out
    clear g0 g1 g2 g3 g4 g5 g6 gf gl
    go_wp2_with fail
    go_end0
    rw [HM.out]
    exact ⟨rfl, HW2.out⟩

set_option maxHeartbeats 1500000 in
set_option maxRecDepth 100000 in
theorem pVarW_1 {N R k : Nat} {D : Nat → Prop} {x : VarT} {cs : List Value} {s : Ws} (w : World) (h : Wv N R k s w) (hE : VarE w D x cs) (hD : ∀ b, D b → b < N) (hlen : (varW x s).out.length ≤ 140737488355328) (hdk : (x.dflt.k = 0) = False) : Calls Tryz.prog 110 #[.pointer (some ⟨R, 0, none⟩), .agg cs.toArray] w (WAns N R k (varW x s) w) := by
  obtain ⟨⟨hz1, hz2, hz3, hvs⟩, c0, c1, c2, c3, rfl, hR⟩ := hE
  obtain ⟨an, cn, ap, cp, hsh⟩ := hR.shape
  obtain ⟨rfl, rfl, rfl, rfl⟩ := agg4_inj' hsh
  clear hsh
  have HDD := Lib.hid hD
  have HV := Lib.hid hR
  have HVS := Lib.hid hvs
  have HM := Lib.hid (show varW x s = valW x.dflt (wrs [[61]] (wrs [[36], x.nm, [58], tyTx x.ty.1 x.ty.2] s)) by unfold varW; rw [if_neg (by rw [hdk]; exact fun h => h)])
  have hl5 : (valW x.dflt (wrs [[61]] (wrs [[36], x.nm, [58], tyTx x.ty.1 x.ty.2] s))).out.length ≤ 140737488355328 := by rw [← HM.out]; exact hlen
  have hl2 : (wrs [[61]] (wrs [[36], x.nm, [58], tyTx x.ty.1 x.ty.2] s)).out.length ≤ 140737488355328 := Nat.le_trans (valW_k (I := Mo (wrs [[61]] (wrs [[36], x.nm, [58], tyTx x.ty.1 x.ty.2] s))) (mo_wr _) x.dflt _ (Nat.le_refl _)) hl5
  have hl1 : (wrs [[36], x.nm, [58], tyTx x.ty.1 x.ty.2] s).out.length ≤ 140737488355328 := Nat.le_trans (wrs_k (I := Mo (wrs [[36], x.nm, [58], tyTx x.ty.1 x.ty.2] s)) (mo_wr _) [[61]] _ (Nat.le_refl _)) hl2
  have hk0 : (x.dflt.k == 0) = false := by
    have : x.dflt.k ≠ 0 := fun h => by rw [hdk] at h; exact h
    simpa using this
  have hk1 : (x.dflt.k != 0) = true := by unfold bne; rw [hk0]; rfl
  have HL := Lib.hid (And.intro hl1 (And.intro hl2 hl5))
  have HW0 := Lib.hid ((Wk.refl h).alloc (.cells #[.string ⟨x.nm.toArray⟩, .string ⟨x.ty.1.toArray⟩, .string ⟨x.ty.2.toArray⟩, .int .i64 x.dflt.k, .string x.dflt.s, .slice an x.dflt.ns.length cn, .slice ap x.dflt.ps.length cp] 59))
  have HB0 := Lib.hid (show (w.alloc (.cells #[.string ⟨x.nm.toArray⟩, .string ⟨x.ty.1.toArray⟩, .string ⟨x.ty.2.toArray⟩, .int .i64 x.dflt.k, .string x.dflt.s, .slice an x.dflt.ns.length cn, .slice ap x.dflt.ps.length cp] 59)).heap[w.heap.size]? = some (.cells #[.string ⟨x.nm.toArray⟩, .string ⟨x.ty.1.toArray⟩, .string ⟨x.ty.2.toArray⟩, .int .i64 x.dflt.k, .string x.dflt.s, .slice an x.dflt.ns.length cn, .slice ap x.dflt.ps.length cp] 59 (0, 0)) from heap_alloc_new _ _)
  have hlR := h.lt
  have hbR : w.heap.size ≠ R := by omega
  have HT := typeText_any ⟨x.ty.1.toArray⟩ ⟨x.ty.2.toArray⟩ (w.alloc (.cells #[.string ⟨x.nm.toArray⟩, .string ⟨x.ty.1.toArray⟩, .string ⟨x.ty.2.toArray⟩, .int .i64 x.dflt.k, .string x.dflt.s, .slice an x.dflt.ns.length cn, .slice ap x.dflt.ps.length cp] 59)).drew hz2 hz3 HW0.out.1.mx.2
  have HD0 := Lib.hid (show Below (w.alloc (.cells #[.string ⟨x.nm.toArray⟩, .string ⟨x.ty.1.toArray⟩, .string ⟨x.ty.2.toArray⟩, .int .i64 x.dflt.k, .string x.dflt.s, .slice an x.dflt.ns.length cn, .slice ap x.dflt.ps.length cp] 59)).heap.size (w.alloc (.cells #[.string ⟨x.nm.toArray⟩, .string ⟨x.ty.1.toArray⟩, .string ⟨x.ty.2.toArray⟩, .int .i64 x.dflt.k, .string x.dflt.s, .slice an x.dflt.ns.length cn, .slice ap x.dflt.ps.length cp] 59)) (w.alloc (.cells #[.string ⟨x.nm.toArray⟩, .string ⟨x.ty.1.toArray⟩, .string ⟨x.ty.2.toArray⟩, .int .i64 x.dflt.k, .string x.dflt.s, .slice an x.dflt.ns.length cn, .slice ap x.dflt.ps.length cp] 59)).drew from (Below.refl _ _).drew)
  have HTB := Lib.hid (show tyTextB (vbl ⟨x.ty.1.toArray⟩) (vbl ⟨x.ty.2.toArray⟩) = tyTx x.ty.1 x.ty.2 from rfl)
  generalize tyTextB (vbl ⟨x.ty.1.toArray⟩) (vbl ⟨x.ty.2.toArray⟩) = tb at *
  have HF := Lib.hid (fun w1 (hb1 : Below (w.alloc (.cells #[.string ⟨x.nm.toArray⟩, .string ⟨x.ty.1.toArray⟩, .string ⟨x.ty.2.toArray⟩, .int .i64 x.dflt.k, .string x.dflt.s, .slice an x.dflt.ns.length cn, .slice ap x.dflt.ps.length cp] 59)).drew.heap.size (w.alloc (.cells #[.string ⟨x.nm.toArray⟩, .string ⟨x.ty.1.toArray⟩, .string ⟨x.ty.2.toArray⟩, .int .i64 x.dflt.k, .string x.dflt.s, .slice an x.dflt.ns.length cn, .slice ap x.dflt.ps.length cp] 59)).drew w1) => bk7 ((hb1.block w.heap.size (by show w.heap.size < (w.alloc (.cells #[.string ⟨x.nm.toArray⟩, .string ⟨x.ty.1.toArray⟩, .string ⟨x.ty.2.toArray⟩, .int .i64 x.dflt.k, .string x.dflt.s, .slice an x.dflt.ns.length cn, .slice ap x.dflt.ps.length cp] 59)).heap.size; simp)).trans HB0.out))
  have HCF := Lib.hid (fun w1 (hb1 : Below (w.alloc (.cells #[.string ⟨x.nm.toArray⟩, .string ⟨x.ty.1.toArray⟩, .string ⟨x.ty.2.toArray⟩, .int .i64 x.dflt.k, .string x.dflt.s, .slice an x.dflt.ns.length cn, .slice ap x.dflt.ps.length cp] 59)).drew.heap.size (w.alloc (.cells #[.string ⟨x.nm.toArray⟩, .string ⟨x.ty.1.toArray⟩, .string ⟨x.ty.2.toArray⟩, .int .i64 x.dflt.k, .string x.dflt.s, .slice an x.dflt.ns.length cn, .slice ap x.dflt.ps.length cp] 59)).drew w1) => have hk1 := HW0.out.below (HD0.out.trans hb1); have hT := txFour (v := ⟨#[36]⟩) (u := ⟨x.nm.toArray⟩) (x := ⟨#[58]⟩) (y := ⟨tb.toArray⟩) hk1; And.intro hk1 (And.intro hT.1 (show Calls Tryz.prog 69 #[.pointer (some ⟨R, 0, none⟩), .slice (some ⟨w1.heap.size, 0, none⟩) 4 4] (w1.alloc (.cells #[.string ⟨#[36]⟩, .string ⟨x.nm.toArray⟩, .string ⟨#[58]⟩, .string ⟨tb.toArray⟩] 9)) (WAns N R k (wrs [[36], x.nm, [58], tb] s) _) from write_any (l := [⟨#[36]⟩, ⟨x.nm.toArray⟩, ⟨#[58]⟩, ⟨tb.toArray⟩]) (cap := 4) _ hT.1.1 hT.2 (show 4 ≤ 100 by decide) (Nat.le_refl _) (by rw [← HTB.out] at HL; exact HL.out.1))))
  clear h hR hD hlen hl1 hl2 hl5 hvs
  generalize varW x s = RES at *
  show Calls Tryz.prog 110 #[.pointer (some ⟨R, 0, none⟩), .agg #[.string ⟨x.nm.toArray⟩, .string ⟨x.ty.1.toArray⟩, .string ⟨x.ty.2.toArray⟩, .int .i64 x.dflt.k, .string x.dflt.s, .slice an x.dflt.ns.length cn, .slice ap x.dflt.ps.length cp]] w _
  go_enter Tryz.func110, Tryz.ntmps110
  go_wp2_with fail
  go_upto_region 1 with fail
  go_region_with (first
    | ((go_at_call 155); (with_reducible refine HT.mono ?_); rintro e w1 ⟨rfl, hb1⟩; obtain ⟨g0, g1, g2, g3, g4, g5, g6, gf, gl⟩ := HF.out w1 hb1; have HB1 := Lib.hid hb1; clear hb1)
    | ((go_at_call 69); (with_reducible refine (HCF.out w1 HB1.out).2.2.mono ?_); rintro e w2 ⟨rfl, hk2⟩; have HK2 := Lib.hid hk2; clear hk2))
  all_goals
    have HC1 := HCF.out w1 HB1.out
    have HW2 : Hid (Wk N R k (wrs [[36], x.nm, [58], tyTx x.ty.1 x.ty.2] s) w w2) := Lib.hid (by
      have := HC1.1.trans (HC1.2.1.trans HK2.out)
      rw [HTB.out] at this
      exact this)
    have HB2 := Lib.hid ((HC1.2.1.trans HK2.out).box (((HB1.out).block w.heap.size (by show w.heap.size < (w.alloc (.cells #[.string ⟨x.nm.toArray⟩, .string ⟨x.ty.1.toArray⟩, .string ⟨x.ty.2.toArray⟩, .int .i64 x.dflt.k, .string x.dflt.s, .slice an x.dflt.ns.length cn, .slice ap x.dflt.ps.length cp] 59)).heap.size; simp)).trans HB0.out) (by decide) hbR)
    clear HC1 HK2
    obtain ⟨q0, q1, q2, q3, q4, q5, q6, qf, hbl⟩ := bk7 HB2.out
    clear g0 g1 g2 g3 g4 g5 g6 gf gl
    have hT := txOne (v := ⟨#[61]⟩) HW2.out
    have HCW := write_any (l := [⟨#[61]⟩]) (cap := 1) _ hT.1.1 hT.2 (show 1 ≤ 100 by decide) (Nat.le_refl _) HL.out.2.1
    have HCW : Calls Tryz.prog 69 #[.pointer (some ⟨R, 0, none⟩), .slice (some ⟨w2.heap.size, 0, none⟩) 1 1] _ _ := HCW
    have HT1 := Lib.hid hT.1
    clear hT
    go_wp2_with fail
    refine HCW.mono ?_
    rintro e w3 ⟨rfl, hk⟩
    have HW3 : Hid (Wk N R k (wrs [[61]] (wrs [[36], x.nm, [58], tyTx x.ty.1 x.ty.2] s)) w w3) := Lib.hid (HW2.out.trans (HT1.out.trans hk))
    have HB3 := Lib.hid ((HT1.out.trans hk).box HB2.out (by decide) hbR)
    clear q0 q1 q2 q3 q4 q5 q6 qf hbl
    obtain ⟨q0, q1, q2, q3, q4, q5, q6, qf, hbl⟩ := bk7 HB3.out
    clear hk
    clear HCW HT1
    have HC := pValW_any (x := x.dflt) w3 HW3.out.1 (RdX.step (fun _ h => h) (fun b o hb => World.cell?_of_block (a := ⟨b, o, none⟩) (HW3.out.2.1.block b (HDD.out b hb))) HV.out) HDD.out HVS.out HL.out.2.2
    go_wp2_with fail
    refine HC.mono ?_
    rintro e w4 ⟨rfl, hk⟩
    have HW4 : Hid (Wk N R k (valW x.dflt (wrs [[61]] (wrs [[36], x.nm, [58], tyTx x.ty.1 x.ty.2] s))) w w4) := Lib.hid (HW3.out.trans hk)
    have HB4 := Lib.hid (hk.box HB3.out (by decide) hbR)
    clear q0 q1 q2 q3 q4 q5 q6 qf hbl
    obtain ⟨q0, q1, q2, q3, q4, q5, q6, qf, hbl⟩ := bk7 HB4.out
    clear hk
    clear HC
    go_wp2_with fail
    go_end0
    rw [HM.out]
    exact ⟨rfl, HW4.out⟩

set_option maxHeartbeats 1500000 in
set_option maxRecDepth 100000 in
theorem pVarW_any {N R k : Nat} {D : Nat → Prop} {x : VarT} {cs : List Value} {s : Ws} (w : World) (h : Wv N R k s w) (hE : VarE w D x cs) (hD : ∀ b, D b → b < N) (hlen : (varW x s).out.length ≤ 140737488355328) : Calls Tryz.prog 110 #[.pointer (some ⟨R, 0, none⟩), .agg cs.toArray] w (WAns N R k (varW x s) w) := by
  by_cases hk : x.dflt.k = 0
  · exact pVarW_0 w h hE hD hlen (eq_true hk)
  · exact pVarW_1 w h hE hD hlen (eq_false hk)

end Go.Proofs.YtkfllppggjhhmaaGreatDoor
