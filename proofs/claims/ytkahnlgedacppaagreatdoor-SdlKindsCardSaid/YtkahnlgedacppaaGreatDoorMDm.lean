/-
  What jval.writeValue and jval.Text write.
-/
import Derived.Test.YtkahnlgedacppaaGreatDoorMText
import Derived.Test.YtkahnlgedacppaaGreatDoorMLx3
import Derived.Test.YtkahnlgedacppaaGreatDoorMQuote2
namespace Go.Proofs.YtkahnlgedacppaaGreatDoor
open Go.RowKit

/-- The builder and the value's box. -/
structure Sb (B b kb : Nat) (bx : Array Value) (l : List UInt8) (w W : World) : Prop where
  bld : Bld 130 B b [] (Lib.byteCells l) W
  bel : Below B w W
  kep : Lib.OthersKept 5 (some b) w W
  box : W.heap[kb]? = some (.cells bx 52 (0, 0))
  le : B ≤ W.heap.size
theorem Sb.write {B b kb : Nat} {bx : Array Value} {l l' : List UInt8} {w W W' : World} (h : Sb B b kb bx l w W) (hkb : kb ≠ b)
    (h1 : Bld 130 B b [] (Lib.byteCells l') W') (h2 : Below B W W') (h3 : Lib.OthersKept 5 (some b) W W') : Sb B b kb bx l' w W' :=
  ⟨h1, h.bel.trans h2, h.kep.trans h3, h3 kb _ h.box (by simpa using hkb) (cells_ne bx), Nat.le_trans h.le h2.size⟩
theorem Sb.below {B b kb : Nat} {bx : Array Value} {l : List UInt8} {w W W' : World} (h : Sb B b kb bx l w W) (hb : Below W.heap.size W W') : Sb B b kb bx l w W' :=
  ⟨h.bld.below hb, h.bel.trans (hb.mono h.le), h.kep.trans (kept_below hb), (hb.block kb (Array.getElem?_eq_some_iff.1 h.box).1).trans h.box, Nat.le_trans h.le hb.size⟩
theorem Sb.cell {B b kb : Nat} {bx : Array Value} {l : List UInt8} {w W : World} (h : Sb B b kb bx l w W) (j : Nat) : W.cell? ⟨kb, j, none⟩ = bx[j]? := Lib.cell_of_heap h.box j
theorem Sb.done {B b kb : Nat} {bx : Array Value} {l l' : List UInt8} {w W : World} (h : Sb B b kb bx l w W) (e : l = l') : Wrote B b l' w (.returned (.tuple #[])) W := by
  subst e; exact ⟨rfl, h.bld, h.bel, h.kep⟩

end Go.Proofs.YtkahnlgedacppaaGreatDoor
/-
  What refectoryref08.Digits and refectorylaw00.Digits answer: a number's digits.
-/
namespace Go.Proofs.YtkahnlgedacppaaGreatDoor
open Go.RowKit

def dch (d : Nat) : UInt8 := UInt8.ofNat (48 + d)
/-- The digits of a number that has at most f of them. -/
def dgs : Nat → Nat → List UInt8
  | 0, _ => []
  | f + 1, v => if v < 10 then [dch v] else dgs f (v / 10) ++ [dch (v % 10)]

theorem digit_slice (d : Nat) (hd : d < 10) (w : World) : (Instr.slice 9 (.string ⟨#[48, 49, 50, 51, 52, 53, 54, 55, 56, 57]⟩) (some (.int .i64 (d : Int))) (some (.int .i64 ((d : Int) + 1))) none).run Tryz.prog w = .ok (.string ⟨#[dch d]⟩) w := by
  have hz : digitsS.size = 10 := rfl
  rw [run_slice_string_if _ _ _ _ _ _ _ Tryz.underlying9, if_pos (by show _ ∧ _ ≤ (digitsS.size : Int); omega), if_pos (by omega)]
  have e : ((d : Int) + 1).toNat = d + 1 := by omega
  have e0 : ((d : Int)).toNat = d := by omega
  rw [e, e0]
  match d, hd with
  | 0, _ | 1, _ | 2, _ | 3, _ | 4, _ | 5, _ | 6, _ | 7, _ | 8, _ | 9, _ => rfl

theorem app_one (l : List UInt8) (b : UInt8) : (⟨l.toArray⟩ : ByteArray) ++ ⟨#[b]⟩ = ⟨(l ++ [b]).toArray⟩ := by
  rw [← of_list (⟨l.toArray⟩ ++ ⟨#[b]⟩), app_list]

theorem dgs_len : ∀ f v, (dgs f v).length ≤ f
  | 0, _ => Nat.le_refl _
  | f + 1, v => by
    unfold dgs
    split
    · simp
    · have := dgs_len f (v / 10)
      simp; omega

set_option maxHeartbeats 1000000 in
set_option maxRecDepth 100000 in
theorem refDigits_any : ∀ (f v : Nat) (w : World), v < 10 ^ f → 1 ≤ f → f ≤ 15 →
    Calls Tryz.prog 46 #[.int .i64 v] w fun e w' => e = .returned (.string ⟨(dgs f v).toArray⟩) ∧ ∃ m, w' = w.drewN m
  | 0, _, _, _, h, _ => absurd h (by omega)
  | f + 1, v, w, h, _, hf => by
    have hv : v ≤ 1000000000000000 := by
      have : 10 ^ (f + 1) ≤ 10 ^ 15 := Nat.pow_le_pow_right (by omega) hf
      have e : (10 : Nat) ^ 15 = 1000000000000000 := by decide
      omega
    have d1 : decide ((v : Int) ≤ -10) = false := decide_eq_false (by omega)
    have d2 : decide ((v : Int) < 0) = false := decide_eq_false (by omega)
    by_cases h10 : v < 10
    · have HD := Lib.hid (show [dch v] = dgs (f + 1) v by unfold dgs; rw [if_pos h10])
      have d3 : decide ((v : Int) < 10) = true := by simp; omega
      have hsl := digit_slice v h10
      go_enter Tryz.func46, Tryz.ntmps46
      go_wp2_with fail
      go_ret
      exact ⟨by rw [← HD.out]; rfl, 0, rfl⟩
    · have d3 : decide ((v : Int) < 10) = false := by simp; omega
      have HD := Lib.hid (show dgs f (v / 10) ++ [dch (v % 10)] = dgs (f + 1) v by
        show _ = if v < 10 then _ else _
        rw [if_neg h10])
      have hlt : v / 10 < 10 ^ f := by
        rw [Nat.pow_succ] at h
        omega
      have hf1 : 1 ≤ f := by
        rcases Nat.eq_zero_or_pos f with h0 | h0
        · subst h0; simp at hlt; omega
        · exact h0
      have hih := fun W => refDigits_any f (v / 10) W hlt hf1 (by omega)
      have hl := dgs_len f (v / 10)
      have hd10 : v % 10 < 10 := Nat.mod_lt _ (by omega)
      have q1 : (v : Int).tdiv 10 = ((v / 10 : Nat) : Int) := by rw [Int.tdiv_eq_ediv_of_nonneg (by omega)]; omega
      have q2 : (v : Int).tmod 10 = ((v % 10 : Nat) : Int) := by rw [Int.tmod_eq_emod_of_nonneg (by omega)]; omega
      have q3 : (v : Int) / 10 = ((v / 10 : Nat) : Int) := by omega
      have q4 : (v : Int) % 10 = ((v % 10 : Nat) : Int) := by omega
      have hsl := digit_slice (v % 10) hd10
      have HA := Lib.hid (app_one (dgs f (v / 10)) (dch (v % 10)))
      generalize v % 10 = d at *
      generalize v / 10 = u at *
      have w1 : IntKind.i64.wrap ((d : Int) + 1) = (d : Int) + 1 := IntWalk.i64_in _ (by omega)
      have w2 : IntKind.i64.wrap (d : Int) = (d : Int) := IntWalk.i64_in _ (by omega)
      have w3 : IntKind.i64.wrap (u : Int) = (u : Int) := IntWalk.i64_in _ (by omega)
      generalize dgs f u = L at *
      go_enter Tryz.func46, Tryz.ntmps46
      go_wp2_with fail
      go_quiet ((go_at_call 46; exact Calls.quiet_of (hih _)))
      go_wp2_with fail
      go_ret
      exact ⟨by rw [← HD.out, ← HA.out]; rfl, _, rfl⟩

set_option maxHeartbeats 400000 in
theorem lawDigits_any (f v : Nat) (w : World) (h : v < 10 ^ f) (h1 : 1 ≤ f) (h15 : f ≤ 15) :
    Calls Tryz.prog 20 #[.int .i64 v] w fun e w' => e = .returned (.string ⟨(dgs f v).toArray⟩) ∧ ∃ m, w' = w.drewN m := by
  go_enter Tryz.func20, Tryz.ntmps20
  go_wp2_with fail
  refine (refDigits_any f v _ h h1 h15).mono ?_
  rintro e w1 ⟨rfl, m, rfl⟩
  go_wp2_with fail
  go_ret
  exact ⟨rfl, m, rfl⟩

end Go.Proofs.YtkahnlgedacppaaGreatDoor
/-
  Plain facts: numbers as they may be written, and not.
-/
namespace Go.Proofs.YtkahnlgedacppaaGreatDoor
open Go.RowKit

def allDig (l : List UInt8) : Prop := ∀ b ∈ l, digU b = true
/-- Digits, at least one; the first is 0 if it stands alone. -/
structure IsNat (l : List UInt8) : Prop where
  ne : l ≠ []
  dig : allDig l
  lead : l = [48] ∨ l.head? ≠ some 48
def noDig (t : List UInt8) : Prop := ∀ b, t.head? = some b → digU b = false

theorem dch_dig (d : Nat) (h : d < 10) : digU (dch d) = true := by
  match d, h with
  | 0, _ | 1, _ | 2, _ | 3, _ | 4, _ | 5, _ | 6, _ | 7, _ | 8, _ | 9, _ => decide

theorem dgs_nat : ∀ (f v : Nat), v < 10 ^ f → 1 ≤ f → IsNat (dgs f v)
  | 0, _, _, h => absurd h (by omega)
  | f + 1, v, h, _ => by
    by_cases h10 : v < 10
    · have e : dgs (f + 1) v = [dch v] := by unfold dgs; rw [if_pos h10]
      rw [e]
      refine ⟨by simp, fun b hb => by simp at hb; subst hb; exact dch_dig v h10, ?_⟩
      match v, h10 with
      | 0, _ => exact .inl rfl
      | 1, _ | 2, _ | 3, _ | 4, _ | 5, _ | 6, _ | 7, _ | 8, _ | 9, _ => exact .inr (by decide)
    · have e : dgs (f + 1) v = dgs f (v / 10) ++ [dch (v % 10)] := by
        show (if v < 10 then _ else _) = _
        rw [if_neg h10]
      have hlt : v / 10 < 10 ^ f := by
        rw [Nat.pow_succ] at h
        omega
      have hf1 : 1 ≤ f := by
        rcases Nat.eq_zero_or_pos f with h0 | h0
        · subst h0; simp at hlt; omega
        · exact h0
      have ih := dgs_nat f (v / 10) hlt hf1
      have hd : digU (dch (v % 10)) = true := dch_dig _ (Nat.mod_lt _ (by omega))
      rw [e]
      refine ⟨by simp, fun b hb => ?_, .inr ?_⟩
      · rcases List.mem_append.1 hb with hb | hb
        · exact ih.dig b hb
        · simp at hb; subst hb; exact hd
      · have hh : (dgs f (v / 10) ++ [dch (v % 10)]).head? = (dgs f (v / 10)).head? := by
          cases hd0 : dgs f (v / 10) with
          | nil => exact absurd hd0 ih.ne
          | cons b r => rfl
        rw [hh]
        rcases ih.lead with h1 | h1
        · -- the number's front is 0 alone: then v / 10 = 0
          exfalso
          have : ∀ (f u : Nat), u < 10 ^ f → 1 ≤ f → 1 ≤ u → (dgs f u) ≠ [48] := by
            intro f u hu hf hu1 he
            match f, hf with
            | f + 1, _ =>
              by_cases hu10 : u < 10
              · have e2 : dgs (f + 1) u = [dch u] := by unfold dgs; rw [if_pos hu10]
                rw [e2] at he
                match u, hu10, hu1 with
                | 1, _, _ | 2, _, _ | 3, _, _ | 4, _, _ | 5, _, _ | 6, _, _ | 7, _, _ | 8, _, _ | 9, _, _ => exact absurd he (by decide)
              · have e2 : dgs (f + 1) u = dgs f (u / 10) ++ [dch (u % 10)] := by
                  show (if u < 10 then _ else _) = _
                  rw [if_neg hu10]
                have h3 := congrArg List.length he
                rw [e2] at h3
                have hlt2 : u / 10 < 10 ^ f := by
                  rw [Nat.pow_succ] at hu
                  omega
                have hf2 : 1 ≤ f := by
                  rcases Nat.eq_zero_or_pos f with h0 | h0
                  · subst h0; simp at hlt2; omega
                  · exact h0
                have h4 : dgs f (u / 10) ≠ [] := (by
                  match f, hf2 with
                  | f + 1, _ =>
                    unfold dgs
                    split <;> simp)
                have h5 : 0 < (dgs f (u / 10)).length := List.length_pos_iff.2 h4
                rw [List.length_append] at h3
                simp only [List.length_cons, List.length_nil] at h3
                omega
          exact this f (v / 10) hlt hf1 (by omega) h1
        · exact h1

theorem dd_app (x t : List UInt8) (hx : allDig x) (ht : noDig t) : dd (x ++ t) = t := by
  induction x with
  | nil =>
    cases t with
    | nil => rfl
    | cons b r =>
      show dd (b :: r) = _
      unfold dd
      rw [List.dropWhile_cons, ht b rfl]
      rfl
  | cons b r ih =>
    have h : dd (b :: (r ++ t)) = dd (r ++ t) := by
      unfold dd
      rw [List.dropWhile_cons, hx b (by simp)]
      rfl
    rw [List.cons_append, h, ih fun c hc => hx c (by simp [hc])]
theorem cutD_app (x t : List UInt8) (hx : allDig x) (hne : x ≠ []) (ht : noDig t) : cutDigitsP (x ++ t) = (t, true) := by
  unfold cutDigitsP
  rw [dd_app x t hx ht]
  have : 0 < x.length := List.length_pos_iff.2 hne
  simp [this]
theorem pre_cons (b c : UInt8) (t : List UInt8) : Lib.hasPrefix (b :: t) [c] = (c == b) := by
  unfold Lib.hasPrefix
  simp [List.isPrefixOf]
theorem trim_yes (c : UInt8) (t : List UInt8) : Lib.trimPrefix (c :: t) [c] = t := by
  unfold Lib.trimPrefix
  rw [pre_cons, beq_self_eq_true, if_pos rfl]
  rfl
theorem trim_no (b c : UInt8) (t : List UInt8) (h : (c == b) = false) : Lib.trimPrefix (b :: t) [c] = b :: t := by
  unfold Lib.trimPrefix
  rw [pre_cons, h]
  rfl

/-- A sign or none. -/
def isSgn (l : List UInt8) : Prop := l = [] ∨ l = [45]

theorem dig_ne {b : UInt8} (h : digU b = true) (c : UInt8) (hc : digU c = false) : (c == b) = false := by
  rw [beq_eq_false_iff_ne]
  rintro rfl
  rw [hc] at h
  cases h

theorem cutW_app (x t : List UInt8) (hx : IsNat x) (ht : noDig t) : cutWholeP (x ++ t) = (t, true) := by
  unfold cutWholeP
  rcases hx.lead with rfl | h
  · rw [show [48] ++ t = 48 :: t from rfl, pre_cons, beq_self_eq_true, if_pos rfl, trim_yes]
  · match x, hx.ne, h with
    | b :: r, _, h =>
      rw [List.cons_append, pre_cons]
      have hb : ((48 : UInt8) == b) = false := by
        rw [beq_eq_false_iff_ne]
        rintro rfl
        exact h rfl
      rw [hb, ← List.cons_append]
      exact cutD_app _ t hx.dig hx.ne ht

theorem numW_app (sg x t : List UInt8) (hs : isSgn sg) (hx : IsNat x) (ht : noDig t) : numW (sg ++ (x ++ t)) = (t, true) := by
  unfold numW
  rcases hs with rfl | rfl
  · match x, hx with
    | [], hx => exact absurd rfl hx.ne
    | b :: r, hx =>
      rw [List.nil_append, List.cons_append, trim_no b 45 _ (dig_ne (hx.dig b (by simp)) 45 (by decide)), ← List.cons_append]
      exact cutW_app _ t hx ht
  · rw [show [45] ++ (x ++ t) = 45 :: (x ++ t) from rfl, trim_yes]
    exact cutW_app x t hx ht
theorem numOk_of {l : List UInt8} (hl : l.length ≤ 40) (h1 : (numW l).2 = true) (h2 : (numF l).2 = true) (h3 : (numE l) = ([], true)) : numOk l = true := by
  unfold numOk
  rw [h1, h2, h3, decide_eq_true hl]
  rfl
theorem form1 {sg x : List UInt8} (hs : isSgn sg) (hx : IsNat x) (hl : (sg ++ (x ++ [])).length ≤ 40) : numOk (sg ++ (x ++ [])) = true ∧ numWhole (sg ++ (x ++ [])) = true := by
  have w := numW_app sg x [] hs hx (fun b h => by simp at h)
  have f : numF (sg ++ (x ++ [])) = ([], true) := by unfold numF; rw [w]; rfl
  have e : numE (sg ++ (x ++ [])) = ([], true) := by unfold numE; rw [f]; rfl
  have h := numOk_of hl (by rw [w]) (by rw [f]) e
  exact ⟨h, by unfold numWhole; rw [h, w]; rfl⟩
end Go.Proofs.YtkahnlgedacppaaGreatDoor
/-
  Unlike values have unlike texts: a value's text, with what may stand behind it, says the value.
-/
namespace Go.Proofs.YtkahnlgedacppaaGreatDoor
open Go.RowKit

/-! ### Numbers -/
def numC (b : UInt8) : Bool := digU b || b == 45 || b == 46 || b == 43 || b == 101 || b == 69
theorem taken {p : UInt8 → Bool} : ∀ {l : List UInt8} {b : UInt8}, b ∈ l.takeWhile p → p b = true
  | [], _, h => by cases h
  | a :: t, b, h => by
    rw [List.takeWhile_cons] at h
    split at h
    · rcases List.mem_cons.1 h with e | e
      · subst e; assumption
      · exact taken e
    · cases h
theorem dd_all {l : List UInt8} (h : (dd l).all numC = true) : l.all numC = true := by
  unfold dd at h
  rw [← List.takeWhile_append_dropWhile (p := digU) (l := l), List.all_append, h, Bool.and_true, List.all_eq_true]
  intro b hb
  have := taken hb
  unfold numC
  rw [this]
  rfl
theorem trim_all {l : List UInt8} {c : UInt8} (hc : numC c = true) (h : (Lib.trimPrefix l [c]).all numC = true) : l.all numC = true := by
  unfold Lib.trimPrefix Lib.hasPrefix at h
  split at h
  · rename_i hp
    cases l with
    | nil => rfl
    | cons a t =>
      simp [List.isPrefixOf] at hp
      subst hp
      simp at h
      rw [List.all_cons, hc, Bool.true_and, List.all_eq_true]
      exact h
  · exact h
theorem num_all {l : List UInt8} (h : numOk l = true) : l.all numC = true := by
  unfold numOk at h
  simp only [Bool.and_eq_true] at h
  obtain ⟨_, ⟨⟨h1, h2⟩, h3⟩, h4⟩ := h
  have e0 : (numE l).1.all numC = true := by
    cases he : (numE l).1 with
    | nil => rfl
    | cons a t => rw [he] at h4; cases h4
  have e1 : (numF l).1.all numC = true := by
    unfold numE cutExponentP at e0
    split at e0
    · rename_i hb
      have h5 := dd_all e0
      cases hl : (numF l).1 with
      | nil => rfl
      | cons a t =>
        rw [hl] at hb h5
        have ha : numC a = true := by
          unfold beginB at hb
          simp at hb
          rcases hb with e | e <;> subst e <;> decide
        rw [List.all_cons, ha, Bool.true_and]
        unfold signCut at h5
        simp only [List.drop_succ_cons, List.drop_zero] at h5
        split at h5
        · rename_i hs
          cases t with
          | nil => rfl
          | cons c r =>
            have hc : numC c = true := by
              unfold beginB at hs
              simp at hs
              rcases hs with e | e <;> subst e <;> decide
            rw [List.all_cons, hc, Bool.true_and]
            simpa using h5
        · exact h5
    · exact e0
  have e2 : (numW l).1.all numC = true := by
    unfold numF cutFractionP at e1
    split at e1
    · exact trim_all (by decide) (dd_all e1)
    · exact e1
  unfold numW cutWholeP at e2
  split at e2
  · exact trim_all (c := 45) (by decide) (trim_all (by decide) e2)
  · exact trim_all (c := 45) (by decide) (dd_all e2)
theorem num_head {l : List UInt8} (h : numOk l = true) : ∃ a t, l = a :: t ∧ (digU a || a == 45) = true := by
  unfold numOk at h
  simp only [Bool.and_eq_true] at h
  obtain ⟨_, ⟨⟨h1, _⟩, _⟩, _⟩ := h
  cases l with
  | nil => exact absurd h1 (by decide)
  | cons a t =>
    refine ⟨a, t, rfl, ?_⟩
    by_cases ha : a = 45
    · subst ha; simp
    · have e : Lib.trimPrefix (a :: t) [45] = a :: t := by
        unfold Lib.trimPrefix Lib.hasPrefix
        rw [if_neg]
        simp [List.isPrefixOf]
        exact fun e => ha e.symm
      unfold numW at h1
      rw [e] at h1
      unfold cutWholeP at h1
      split at h1
      · rename_i hp
        simp [Lib.hasPrefix, List.isPrefixOf] at hp
        subst hp
        rfl
      · unfold cutDigitsP dd at h1
        simp only [decide_eq_true_eq] at h1
        cases hd : digU a with
        | true => rfl
        | false =>
          rw [List.dropWhile_cons, hd] at h1
          simp at h1

/-! ### Texts in quotes -/
/-! ### A value's first byte says its kind -/
end Go.Proofs.YtkahnlgedacppaaGreatDoor
/-
  Values of documents: what is read from tokens, what a value's text is, and that the text is read as the value.
-/
namespace Go.Proofs.YtkahnlgedacppaaGreatDoor
open Go.RowKit

/-- A token without its place. -/
abbrev Sk := Nat × List UInt8
def strip (t : Tk) : Sk := (t.k, t.s)
def hdK (l : List Sk) : Sk := l.headD (0, [])
def sg (t : Sk) (c : UInt8) : Bool := t.1 == 5 && t.2 == [c]
def vx (k : Int) (s : List UInt8) : JV := .mk k ⟨s.toArray⟩ [] []
def vz : JV := .mk 0 ⟨#[]⟩ [] []
def nullS : List UInt8 := [110, 117, 108, 108]
def trueS : List UInt8 := [116, 114, 117, 101]
def falseS : List UInt8 := [102, 97, 108, 115, 101]
def wordV (s : List UInt8) : JV := if s = nullS then vx 1 [] else if s = trueS then vx 2 s else if s = falseS then vx 2 s else vx 6 s
def plainV (t : Sk) : JV := if t.1 = 1 then wordV t.2 else if t.1 = 2 then vx 3 t.2 else if t.1 = 3 then vx 4 t.2 else if t.1 = 4 then vx 5 t.2 else vz

/-- A value, the tokens behind it (or from the wrong one on), the error. -/
abbrev VR := JV × List Sk × Nat

def vListGo (V : List Sk → VR) : Nat → List Sk → List JV → VR
  | 0, l, _ => (vz, l, 2)
  | n + 1, l, xs => if sg (hdK l) 93 then (.mk 7 ⟨#[]⟩ [] xs, l.tail, 0) else
    if (V l).2.2 = 0 then vListGo V n (V l).2.1 (xs ++ [(V l).1]) else (vz, (V l).2.1, (V l).2.2)

def vObjGo (V : List Sk → VR) : Nat → List Sk → List ByteArray → List JV → VR
  | 0, l, _, _ => (vz, l, 2)
  | n + 1, l, ns, xs => if sg (hdK l) 125 then (.mk 8 ⟨#[]⟩ ns xs, l.tail, 0) else
    if (hdK l).1 = 1 then
      if sg (hdK l.tail) 58 then
        if (V l.tail.tail).2.2 = 0 then vObjGo V n (V l.tail.tail).2.1 (ns ++ [⟨(hdK l).2.toArray⟩]) (xs ++ [(V l.tail.tail).1]) else (vz, (V l.tail.tail).2.1, (V l.tail.tail).2.2)
      else (vz, l.tail, 2)
    else (vz, l, 2)

def varV (l : List Sk) : VR := if (hdK l).1 = 1 then (vx 9 (hdK l).2, l.tail, 0) else (vz, l, 2)

/-- A value with at most f levels. -/
def pvT : Nat → List Sk → VR
  | 0, l => if (plainV (hdK l)).k ≠ 0 then (plainV (hdK l), l.tail, 0) else if sg (hdK l) 36 then varV l.tail
    else if sg (hdK l) 91 || sg (hdK l) 123 then (vz, l, 4) else (vz, l, 2)
  | f + 1, l => if (plainV (hdK l)).k ≠ 0 then (plainV (hdK l), l.tail, 0) else if sg (hdK l) 36 then varV l.tail
    else if sg (hdK l) 91 then vListGo (pvT f) l.length l.tail [] else if sg (hdK l) 123 then vObjGo (pvT f) l.length l.tail [] [] else (vz, l, 2)

/-! ### which values may be read -/
def compV (x : JV) : Bool := x.k == 7 || x.k == 8
/-! ### their tokens, their texts -/
def leafT (x : JV) : List UInt8 := if x.k = 1 then nullS else if x.k = 5 then quoteB (vbl x.s) else if x.k = 9 then 36 :: vbl x.s else vbl x.s
def vpts (f : JV → List UInt8) (ob : Bool) : Bool → List ByteArray → List JV → List UInt8
  | _, _, [] => []
  | fst, ns, p :: r => (if fst then [] else [32]) ++ ((if ob then vbl (ns.headD ⟨#[]⟩) ++ [58] else []) ++ (f p ++ vpts f ob false ns.tail r))
def vtxt : Nat → JV → List UInt8
  | 0, x => if compV x then [] else leafT x
  | m + 1, x => if x.k = 7 then [91] ++ (vpts (vtxt m) false true x.ns x.ps ++ [93]) else if x.k = 8 then [123] ++ (vpts (vtxt m) true true x.ns x.ps ++ [125]) else leafT x

/-! ### the text's tokens -/
def sepV (X : List UInt8) : Prop := ∀ c, X.head? = some c → nbU c = false ∧ c ≠ 34
theorem twV (p : UInt8 → Bool) (u X : List UInt8) (hu : ∀ b ∈ u, p b = true) (hX : ∀ c, X.head? = some c → p c = false) : (u ++ X).takeWhile p = u := by
  induction u with
  | nil =>
    cases X with
    | nil => rfl
    | cons c X => rw [List.nil_append, List.takeWhile_cons, if_neg (by rw [hX c rfl]; decide)]
  | cons b u ih => rw [List.cons_append, List.takeWhile_cons, if_pos (hu b (by simp)), ih (fun c hc => hu c (by simp [hc]))]
/-- A text that lex reads as these tokens, wherever it stands and whatever may stand behind it. -/
def Lexes (u : List UInt8) (ks : List Sk) : Prop := ∀ (X : List UInt8), sepV X → ∀ (a : Nat) (acc : List Tk), ∃ ts, ts.map strip = ks ∧ lxG a (u ++ X) acc = lxG (a + u.length) X (acc ++ ts)

theorem word_lexes {u : List UInt8} {b : UInt8} {r : List UInt8} {k : Nat} {s : List UInt8} (hu : u = b :: r) (hb : lxBlank b = false) (h35 : (b == 35) = false) (hw : ∀ X, sepV X → lxWord (u ++ X) = some (k, s, u.length)) : Lexes u [(k, s)] := by
  intro X hX a acc
  refine ⟨[⟨k, s, a⟩], rfl, ?_⟩
  have h := hw X hX
  subst hu
  rw [List.cons_append] at h ⊢
  rw [lxG_some a b (r ++ X) acc hb h35 h, ← List.cons_append, List.drop_left]

theorem numC_nb {b : UInt8} (h : numC b = true) : nbU b = true := by
  unfold numC at h
  unfold nbU nmU
  simp only [Bool.or_eq_true, beq_iff_eq] at h ⊢
  rcases h with ((((h | h) | h) | h) | h) | h
  · exact .inl (.inl (.inl (.inr h)))
  · exact .inr h
  · exact .inl (.inl (.inr h))
  · exact .inl (.inr h)
  · subst h; exact .inl (.inl (.inl (.inl (by decide))))
  · subst h; exact .inl (.inl (.inl (.inl (by decide))))
theorem numhead_not {b : UInt8} (h : (digU b || b == 45) = true) : letU b = false ∧ lxBlank b = false ∧ (b == 35) = false := by
  have hd : b = 45 ∨ (48 ≤ (b.toNat : Int) ∧ (b.toNat : Int) ≤ 57) := by
    rw [Bool.or_eq_true] at h
    rcases h with h | h
    · right; unfold digU digB at h; exact of_decide_eq_true h
    · left; exact beq_iff_eq.1 h
  rcases hd with rfl | hd
  · decide
  · have n : ∀ c : UInt8, ¬ (48 ≤ (c.toNat : Int) ∧ (c.toNat : Int) ≤ 57) → (b == c) = false := fun c hc => by
      rw [beq_eq_false_iff_ne]
      intro e
      subst e
      exact hc hd
    refine ⟨?_, ?_, n 35 (by decide)⟩
    · unfold letU letB
      rw [decide_eq_false_iff_not]
      omega
    · unfold lxBlank
      rw [n 32 (by decide), n 9 (by decide), n 10 (by decide), n 13 (by decide), n 44 (by decide)]
      rfl
theorem num_lexes {l : List UInt8} (h : numOk l = true) : Lexes l [(if numWhole l then 2 else 3, l)] := by
  obtain ⟨b, r, rfl, hb⟩ := num_head h
  obtain ⟨h0, h1, h2⟩ := numhead_not hb
  have ha : ∀ c ∈ b :: r, nbU c = true := fun c hc => numC_nb (List.all_eq_true.1 (num_all h) c hc)
  refine word_lexes rfl h1 h2 fun X hX => ?_
  have ht : ((b :: r) ++ X).takeWhile nbU = b :: r := twV nbU (b :: r) X ha (fun c hc => (hX c hc).1)
  rw [List.cons_append] at ht ⊢
  show (if letU b = true then lxName (b :: (r ++ X)) else if (b == 45 || digU b) = true then lxNum (b :: (r ++ X)) else _) = _
  rw [if_neg (by rw [h0]; decide), if_pos (by rw [Bool.or_comm]; exact hb)]
  unfold lxNum
  rw [ht, if_pos h]

/-! ### the tokens are read as the value -/
theorem JV.eta (x : JV) : x = .mk x.k x.s x.ns x.ps := by cases x; rfl
/-! ### a value that is read is ahead of less -/
theorem list_less (V : List Sk → VR) (hV : ∀ l, (V l).2.2 = 0 → (V l).2.1.length < l.length) : ∀ (n : Nat) (l : List Sk) (xs : List JV), (vListGo V n l xs).2.2 = 0 → (vListGo V n l xs).2.1.length < l.length
  | 0, _, _, h => absurd h (Nat.succ_ne_zero 1)
  | n + 1, l, xs, h => by
    unfold vListGo at h ⊢
    split
    · rename_i hs
      cases l with
      | nil => exact absurd hs (by decide)
      | cons t r => show r.length < r.length + 1; omega
    · rename_i hs
      rw [if_neg hs] at h
      split
      · rename_i hv
        rw [if_pos hv] at h
        have h1 := hV l hv
        have h2 := list_less V hV n _ _ h
        omega
      · rename_i hv
        rw [if_neg hv] at h
        exact absurd h hv
theorem obj_less (V : List Sk → VR) (hV : ∀ l, (V l).2.2 = 0 → (V l).2.1.length < l.length) : ∀ (n : Nat) (l : List Sk) (ns : List ByteArray) (xs : List JV), (vObjGo V n l ns xs).2.2 = 0 → (vObjGo V n l ns xs).2.1.length < l.length
  | 0, _, _, _, h => absurd h (Nat.succ_ne_zero 1)
  | n + 1, l, ns, xs, h => by
    unfold vObjGo at h ⊢
    split
    · rename_i hs
      cases l with
      | nil => exact absurd hs (by decide)
      | cons t r => show r.length < r.length + 1; omega
    · rename_i hs
      rw [if_neg hs] at h
      split
      · rename_i h1
        rw [if_pos h1] at h
        split
        · rename_i h2
          rw [if_pos h2] at h
          split
          · rename_i hv
            rw [if_pos hv] at h
            have h3 := hV _ hv
            have h4 := obj_less V hV n _ _ _ h
            have h5 : l.tail.tail.length ≤ l.length := by rw [List.length_tail, List.length_tail]; omega
            omega
          · rename_i hv
            rw [if_neg hv] at h
            exact absurd h hv
        · rename_i h2
          rw [if_neg h2] at h
          exact absurd h (Nat.succ_ne_zero _)
      · rename_i h1
        rw [if_neg h1] at h
        exact absurd h (Nat.succ_ne_zero _)
theorem plain_ne {l : List Sk} (h : (plainV (hdK l)).k ≠ 0) : l.tail.length < l.length := by
  cases l with
  | nil => exact absurd rfl h
  | cons t r => show r.length < r.length + 1; omega
theorem sg_ne {l : List Sk} {c : UInt8} (h : sg (hdK l) c = true) : l.tail.length < l.length := by
  cases l with
  | nil => exact absurd h (by unfold sg hdK; simp)
  | cons t r => show r.length < r.length + 1; omega
theorem var_le (l : List Sk) : (varV l).2.1.length ≤ l.length := by
  unfold varV
  split
  · show l.tail.length ≤ _; rw [List.length_tail]; omega
  · exact Nat.le_refl _
theorem pvT_less : ∀ (f : Nat) (l : List Sk), (pvT f l).2.2 = 0 → (pvT f l).2.1.length < l.length
  | 0, l, h => by
    unfold pvT at h ⊢
    split
    · rename_i h1; exact plain_ne h1
    · rename_i h1
      rw [if_neg h1] at h
      split
      · rename_i h2; have := sg_ne h2; have := var_le l.tail; omega
      · rename_i h2
        rw [if_neg h2] at h
        split at h <;> exact absurd h (Nat.succ_ne_zero _)
  | f + 1, l, h => by
    unfold pvT at h ⊢
    split
    · rename_i h1; exact plain_ne h1
    · rename_i h1
      rw [if_neg h1] at h
      split
      · rename_i h2; have := sg_ne h2; have := var_le l.tail; omega
      · rename_i h2
        rw [if_neg h2] at h
        split
        · rename_i h3
          rw [if_pos h3] at h
          have := sg_ne h3
          have := list_less (pvT f) (pvT_less f) _ _ _ h
          omega
        · rename_i h3
          rw [if_neg h3] at h
          split
          · rename_i h4
            rw [if_pos h4] at h
            have := sg_ne h4
            have := obj_less (pvT f) (pvT_less f) _ _ _ _ h
            omega
          · rename_i h4
            rw [if_neg h4] at h
            exact absurd h (Nat.succ_ne_zero _)

end Go.Proofs.YtkahnlgedacppaaGreatDoor
/-
  Types of documents: what is read from tokens, a type's text, and that the text is read as the type.
-/
namespace Go.Proofs.YtkahnlgedacppaaGreatDoor
open Go.RowKit

/-- The one ! that may stand here. -/
def bangP (l : List Sk) : List UInt8 × List Sk := if sg (hdK l) 33 then ([33], l.tail) else ([], l)
/-- So many lists end. -/
def tyEnds : Nat → List Sk → List UInt8 → Option (List UInt8 × List Sk)
  | 0, l, ws => some (ws, l)
  | n + 1, l, ws => if sg (hdK l) 93 then tyEnds n (bangP l.tail).2 (ws ++ (93 :: (bangP l.tail).1)) else none
/-- At most so many lists begin. -/
def opensN : Nat → List Sk → Nat
  | 0, _ => 0
  | k + 1, l => if sg (hdK l) 91 then opensN k l.tail + 1 else 0
def opensL : Nat → List Sk → List Sk
  | 0, l => l
  | k + 1, l => if sg (hdK l) 91 then opensL k l.tail else l
/-- A type: its name, its wraps, the tokens behind it. -/
def typeP (l : List Sk) : Option (List UInt8 × List UInt8 × List Sk) :=
  if (hdK (opensL 12 l)).1 = 1 then (tyEnds (opensN 12 l) (bangP (opensL 12 l).tail).2 (bangP (opensL 12 l).tail).1).map fun q => ((hdK (opensL 12 l)).2, q.1, q.2) else none

theorem opens_le : ∀ (k : Nat) (l : List Sk), opensN k l ≤ k
  | 0, _ => Nat.le_refl _
  | k + 1, l => by
    unfold opensN
    split
    · have := opens_le k l.tail; omega
    · omega

/-! ### which types may be -/
def wk (ws : List UInt8) : List Sk := ws.map fun b => (5, [b])
/-! ### its tokens -/
/-! ### the tokens are read as the type -/
theorem bang_no {l : List Sk} (h : sg (hdK l) 33 = false) : bangP l = ([], l) := by unfold bangP; rw [if_neg (by rw [h]; decide)]
end Go.Proofs.YtkahnlgedacppaaGreatDoor
/-
  Documents, from their tokens: what is read, and where it is wrong. No world: plain functions alone.
-/
namespace Go.Proofs.YtkahnlgedacppaaGreatDoor
open Go.RowKit

abbrev Nm := List UInt8
abbrev ArgT := Nm × JV
abbrev DirT := Nm × List ArgT
/-- A selection: its kind (1 field, 2 spread, 3 inline), alias, name, type, arguments, directives, selections. -/
inductive SelT where
  | mk (k : Int) (al nm on_ : Nm) (args : List ArgT) (dirs : List DirT) (sels : List SelT)
def SelT.k : SelT → Int
  | .mk k _ _ _ _ _ _ => k
def SelT.al : SelT → Nm
  | .mk _ a _ _ _ _ _ => a
def SelT.nm : SelT → Nm
  | .mk _ _ n _ _ _ _ => n
def SelT.on_ : SelT → Nm
  | .mk _ _ _ o _ _ _ => o
def SelT.args : SelT → List ArgT
  | .mk _ _ _ _ a _ _ => a
def SelT.dirs : SelT → List DirT
  | .mk _ _ _ _ _ d _ => d
def SelT.sels : SelT → List SelT
  | .mk _ _ _ _ _ _ s => s
structure VarT where
  nm : Nm
  ty : Nm × Nm
  dflt : JV
structure OpT where
  mut_ : Bool
  nm : Nm
  vars : List VarT
  dirs : List DirT
  sels : List SelT
structure FragT where
  nm : Nm
  on_ : Nm
  dirs : List DirT
  sels : List SelT
structure DocT where
  ops : List OpT
  frags : List FragT

def queryS : Nm := [113, 117, 101, 114, 121]
def mutS : Nm := [109, 117, 116, 97, 116, 105, 111, 110]
/-! ### the document's example, and the texts of the other laws -/
end Go.Proofs.YtkahnlgedacppaaGreatDoor
/-
  doc's parser as it goes: what is ahead of it, the error that it keeps. Plain functions alone.
-/
namespace Go.Proofs.YtkahnlgedacppaaGreatDoor
open Go.RowKit

/-- What is ahead of the parser, the error that it keeps, where. -/
structure Ms where
  l : List Tk
  er : Nat
  wr : Nat
def hdT (l : List Tk) : Tk := l.headD ⟨0, [], 0⟩
def isSg (g : List UInt8) (t : Tk) : Bool := t.k == 5 && t.s == g
def isWd (g : List UInt8) (t : Tk) : Bool := t.k == 1 && t.s == g
/-- The byte of the token ahead; at the end, of the end. -/
def plM (z : Nat) : List Tk → Nat
  | [] => z
  | t :: _ => t.at_
def failM (z e : Nat) (s : Ms) : Ms := if s.er = 0 then ⟨[], e, plM z s.l⟩ else s
def tlM (s : Ms) : Ms := ⟨s.l.tail, s.er, s.wr⟩
def sgM (z : Nat) (g : List UInt8) (s : Ms) : Ms := if isSg g (hdT s.l) then tlM s else failM z 2 s
def wdM (z : Nat) (g : List UInt8) (s : Ms) : Ms := if isWd g (hdT s.l) then tlM s else failM z 2 s
def nmM (z : Nat) (s : Ms) : Nm × Ms := if (hdT s.l).k = 1 then ((hdT s.l).s, tlM s) else ([], failM z 2 s)
/-- The name that a token is; empty, if it is none. -/
def nxN (t : Tk) : List UInt8 := if t.k = 1 then t.s else []
/-- What a token of kind n says that must stand there. -/
def muM (z n : Nat) (s : Ms) : Nm × Ms := if (hdT s.l).k = n then ((hdT s.l).s, tlM s) else ([], failM z 2 s)
def tyM (z : Nat) (s : Ms) : (Nm × Nm) × Ms := match typeP (s.l.map strip) with
  | some (n, ws, r) => ((n, ws), ⟨s.l.drop (s.l.length - r.length), s.er, s.wr⟩)
  | none => (([], []), failM z 2 s)
/-- A value out of m, a beginning of what is ahead. -/
def vaM (z : Nat) (m : List Tk) (s : Ms) : JV × Ms :=
  let r := pvT 12 (m.map strip)
  let s1 : Ms := ⟨s.l.drop (m.length - r.2.1.length), s.er, s.wr⟩
  if r.2.2 = 0 then (r.1, s1) else (vz, failM z r.2.2 s1)
def notVar (t : Tk) : Bool := !isSg [36] t
def coM (z : Nat) (s : Ms) : JV × Ms := vaM z (s.l.takeWhile notVar) s
/-- One part more, and more, up to the sign e. -/
def moreM {α : Type} (e : List UInt8) (P : Ms → α × Ms) : Nat → Ms → List α → List α × Ms
  | 0, s, acc => (acc, s)
  | n + 1, s, acc => if s.er = 0 then (if isSg e (hdT (P s).2.l) then (acc ++ [(P s).1], tlM (P s).2) else moreM e P n (P s).2 (acc ++ [(P s).1])) else (acc, s)
def svM {α : Type} (z : Nat) (b e : List UInt8) (P : Ms → α × Ms) (s : Ms) : List α × Ms := moreM e P ((sgM z b s).l.length + 1) (sgM z b s) []
def soM {α : Type} (z : Nat) (b e : List UInt8) (P : Ms → α × Ms) (s : Ms) : List α × Ms := if isSg b (hdT s.l) then svM z b e P s else ([], s)
def dfltM (z : Nat) (s : Ms) : JV × Ms := if isSg [61] (hdT s.l) then coM z (tlM s) else (vz, s)
/-! ### an error stays; what reads on goes on -/
def Bad (s : Ms) : Prop := s.er ≠ 0 → s.l = []
theorem bad_tl {s : Ms} (h : Bad s) : Bad (tlM s) := fun he => by show s.l.tail = []; rw [h he]; rfl
end Go.Proofs.YtkahnlgedacppaaGreatDoor
