/-
  What refectoryref08.Digits and refectorylaw00.Digits answer: a number's digits.
-/
import Derived.Test.YtibkncgfdhflgaaGreatDoorPlace
import Derived.Test.YtibkncgfdhflgaaGreatDoorNum
namespace Go.Proofs.YtibkncgfdhflgaaGreatDoor
open Go.RowKit

def dch (d : Nat) : UInt8 := UInt8.ofNat (48 + d)
/-- The digits of a number that has at most f of them. -/
def dgs : Nat → Nat → List UInt8
  | 0, _ => []
  | f + 1, v => if v < 10 then [dch v] else dgs f (v / 10) ++ [dch (v % 10)]

theorem digit_slice (d : Nat) (hd : d < 10) (w : World) : (Instr.slice 9 (.string ⟨#[48, 49, 50, 51, 52, 53, 54, 55, 56, 57]⟩) (some (.int .i64 (d : Int))) (some (.int .i64 ((d : Int) + 1))) none).run Tryz.prog w = .ok (.string ⟨#[dch d]⟩) w := by
  have hz : digitsS.size = 10 := rfl
  rw [run_slice_string_if _ _ _ _ _ _ _ Tryz.underlying9, if_pos (by show _ ∧ _ ≤ (digitsS.size : Int); omega), if_pos (by omega)]
  have e : ((d : Int) + 1).toNat = d + 1 := by omega
  have e0 : ((d : Int)).toNat = d := by omega
  rw [e, e0]
  match d, hd with
  | 0, _ | 1, _ | 2, _ | 3, _ | 4, _ | 5, _ | 6, _ | 7, _ | 8, _ | 9, _ => rfl

theorem app_one (l : List UInt8) (b : UInt8) : (⟨l.toArray⟩ : ByteArray) ++ ⟨#[b]⟩ = ⟨(l ++ [b]).toArray⟩ := by
  rw [← of_list (⟨l.toArray⟩ ++ ⟨#[b]⟩), app_list]

theorem dgs_len : ∀ f v, (dgs f v).length ≤ f
  | 0, _ => Nat.le_refl _
  | f + 1, v => by
    unfold dgs
    split
    · simp
    · have := dgs_len f (v / 10)
      simp; omega

set_option maxHeartbeats 1000000 in
set_option maxRecDepth 100000 in
theorem refDigits_any : ∀ (f v : Nat) (w : World), v < 10 ^ f → 1 ≤ f → f ≤ 15 →
    Calls Tryz.prog 26 #[.int .i64 v] w fun e w' => e = .returned (.string ⟨(dgs f v).toArray⟩) ∧ ∃ m, w' = w.drewN m
  | 0, _, _, _, h, _ => absurd h (by omega)
  | f + 1, v, w, h, _, hf => by
    have hv : v ≤ 1000000000000000 := by
      have : 10 ^ (f + 1) ≤ 10 ^ 15 := Nat.pow_le_pow_right (by omega) hf
      have e : (10 : Nat) ^ 15 = 1000000000000000 := by decide
      omega
    have d1 : decide ((v : Int) ≤ -10) = false := decide_eq_false (by omega)
    have d2 : decide ((v : Int) < 0) = false := decide_eq_false (by omega)
    by_cases h10 : v < 10
    · have HD := Lib.hid (show [dch v] = dgs (f + 1) v by unfold dgs; rw [if_pos h10])
      have d3 : decide ((v : Int) < 10) = true := by simp; omega
      have hsl := digit_slice v h10
      go_enter Tryz.func26, Tryz.ntmps26
      go_wp2_with fail
      go_ret
      exact ⟨by rw [← HD.out]; rfl, 0, rfl⟩
    · have d3 : decide ((v : Int) < 10) = false := by simp; omega
      have HD := Lib.hid (show dgs f (v / 10) ++ [dch (v % 10)] = dgs (f + 1) v by
        show _ = if v < 10 then _ else _
        rw [if_neg h10])
      have hlt : v / 10 < 10 ^ f := by
        rw [Nat.pow_succ] at h
        omega
      have hf1 : 1 ≤ f := by
        rcases Nat.eq_zero_or_pos f with h0 | h0
        · subst h0; simp at hlt; omega
        · exact h0
      have hih := fun W => refDigits_any f (v / 10) W hlt hf1 (by omega)
      have hl := dgs_len f (v / 10)
      have hd10 : v % 10 < 10 := Nat.mod_lt _ (by omega)
      have q1 : (v : Int).tdiv 10 = ((v / 10 : Nat) : Int) := by rw [Int.tdiv_eq_ediv_of_nonneg (by omega)]; omega
      have q2 : (v : Int).tmod 10 = ((v % 10 : Nat) : Int) := by rw [Int.tmod_eq_emod_of_nonneg (by omega)]; omega
      have q3 : (v : Int) / 10 = ((v / 10 : Nat) : Int) := by omega
      have q4 : (v : Int) % 10 = ((v % 10 : Nat) : Int) := by omega
      have hsl := digit_slice (v % 10) hd10
      have HA := Lib.hid (app_one (dgs f (v / 10)) (dch (v % 10)))
      generalize v % 10 = d at *
      generalize v / 10 = u at *
      have w1 : IntKind.i64.wrap ((d : Int) + 1) = (d : Int) + 1 := IntWalk.i64_in _ (by omega)
      have w2 : IntKind.i64.wrap (d : Int) = (d : Int) := IntWalk.i64_in _ (by omega)
      have w3 : IntKind.i64.wrap (u : Int) = (u : Int) := IntWalk.i64_in _ (by omega)
      generalize dgs f u = L at *
      go_enter Tryz.func26, Tryz.ntmps26
      go_wp2_with fail
      go_quiet ((go_at_call 26; exact Calls.quiet_of (hih _)))
      go_wp2_with fail
      go_ret
      exact ⟨by rw [← HD.out, ← HA.out]; rfl, _, rfl⟩

set_option maxHeartbeats 400000 in
theorem lawDigits_any (f v : Nat) (w : World) (h : v < 10 ^ f) (h1 : 1 ≤ f) (h15 : f ≤ 15) :
    Calls Tryz.prog 13 #[.int .i64 v] w fun e w' => e = .returned (.string ⟨(dgs f v).toArray⟩) ∧ ∃ m, w' = w.drewN m := by
  go_enter Tryz.func13, Tryz.ntmps13
  go_wp2_with fail
  refine (refDigits_any f v _ h h1 h15).mono ?_
  rintro e w1 ⟨rfl, m, rfl⟩
  go_wp2_with fail
  go_ret
  exact ⟨rfl, m, rfl⟩

end Go.Proofs.YtibkncgfdhflgaaGreatDoor

/-
  Plain facts: numbers as they may be written, and not.
-/
namespace Go.Proofs.YtibkncgfdhflgaaGreatDoor
open Go.RowKit

def allDig (l : List UInt8) : Prop := ∀ b ∈ l, digU b = true
/-- Digits, at least one; the first is 0 if it stands alone. -/
structure IsNat (l : List UInt8) : Prop where
  ne : l ≠ []
  dig : allDig l
  lead : l = [48] ∨ l.head? ≠ some 48
def noDig (t : List UInt8) : Prop := ∀ b, t.head? = some b → digU b = false

theorem dch_dig (d : Nat) (h : d < 10) : digU (dch d) = true := by
  match d, h with
  | 0, _ | 1, _ | 2, _ | 3, _ | 4, _ | 5, _ | 6, _ | 7, _ | 8, _ | 9, _ => decide

theorem dgs_nat : ∀ (f v : Nat), v < 10 ^ f → 1 ≤ f → IsNat (dgs f v)
  | 0, _, _, h => absurd h (by omega)
  | f + 1, v, h, _ => by
    by_cases h10 : v < 10
    · have e : dgs (f + 1) v = [dch v] := by unfold dgs; rw [if_pos h10]
      rw [e]
      refine ⟨by simp, fun b hb => by simp at hb; subst hb; exact dch_dig v h10, ?_⟩
      match v, h10 with
      | 0, _ => exact .inl rfl
      | 1, _ | 2, _ | 3, _ | 4, _ | 5, _ | 6, _ | 7, _ | 8, _ | 9, _ => exact .inr (by decide)
    · have e : dgs (f + 1) v = dgs f (v / 10) ++ [dch (v % 10)] := by
        show (if v < 10 then _ else _) = _
        rw [if_neg h10]
      have hlt : v / 10 < 10 ^ f := by
        rw [Nat.pow_succ] at h
        omega
      have hf1 : 1 ≤ f := by
        rcases Nat.eq_zero_or_pos f with h0 | h0
        · subst h0; simp at hlt; omega
        · exact h0
      have ih := dgs_nat f (v / 10) hlt hf1
      have hd : digU (dch (v % 10)) = true := dch_dig _ (Nat.mod_lt _ (by omega))
      rw [e]
      refine ⟨by simp, fun b hb => ?_, .inr ?_⟩
      · rcases List.mem_append.1 hb with hb | hb
        · exact ih.dig b hb
        · simp at hb; subst hb; exact hd
      · have hh : (dgs f (v / 10) ++ [dch (v % 10)]).head? = (dgs f (v / 10)).head? := by
          cases hd0 : dgs f (v / 10) with
          | nil => exact absurd hd0 ih.ne
          | cons b r => rfl
        rw [hh]
        rcases ih.lead with h1 | h1
        · -- the number's front is 0 alone: then v / 10 = 0
          exfalso
          have : ∀ (f u : Nat), u < 10 ^ f → 1 ≤ f → 1 ≤ u → (dgs f u) ≠ [48] := by
            intro f u hu hf hu1 he
            match f, hf with
            | f + 1, _ =>
              by_cases hu10 : u < 10
              · have e2 : dgs (f + 1) u = [dch u] := by unfold dgs; rw [if_pos hu10]
                rw [e2] at he
                match u, hu10, hu1 with
                | 1, _, _ | 2, _, _ | 3, _, _ | 4, _, _ | 5, _, _ | 6, _, _ | 7, _, _ | 8, _, _ | 9, _, _ => exact absurd he (by decide)
              · have e2 : dgs (f + 1) u = dgs f (u / 10) ++ [dch (u % 10)] := by
                  show (if u < 10 then _ else _) = _
                  rw [if_neg hu10]
                have h3 := congrArg List.length he
                rw [e2] at h3
                have hlt2 : u / 10 < 10 ^ f := by
                  rw [Nat.pow_succ] at hu
                  omega
                have hf2 : 1 ≤ f := by
                  rcases Nat.eq_zero_or_pos f with h0 | h0
                  · subst h0; simp at hlt2; omega
                  · exact h0
                have h4 : dgs f (u / 10) ≠ [] := (by
                  match f, hf2 with
                  | f + 1, _ =>
                    unfold dgs
                    split <;> simp)
                have h5 : 0 < (dgs f (u / 10)).length := List.length_pos_iff.2 h4
                rw [List.length_append] at h3
                simp only [List.length_cons, List.length_nil] at h3
                omega
          exact this f (v / 10) hlt hf1 (by omega) h1
        · exact h1

theorem dd_app (x t : List UInt8) (hx : allDig x) (ht : noDig t) : dd (x ++ t) = t := by
  induction x with
  | nil =>
    cases t with
    | nil => rfl
    | cons b r =>
      show dd (b :: r) = _
      unfold dd
      rw [List.dropWhile_cons, ht b rfl]
      rfl
  | cons b r ih =>
    have h : dd (b :: (r ++ t)) = dd (r ++ t) := by
      unfold dd
      rw [List.dropWhile_cons, hx b (by simp)]
      rfl
    rw [List.cons_append, h, ih fun c hc => hx c (by simp [hc])]
theorem dd_not (b : UInt8) (t : List UInt8) (h : digU b = false) : dd (b :: t) = b :: t := by
  unfold dd
  rw [List.dropWhile_cons, h]
  rfl
theorem cutD_app (x t : List UInt8) (hx : allDig x) (hne : x ≠ []) (ht : noDig t) : cutDigitsP (x ++ t) = (t, true) := by
  unfold cutDigitsP
  rw [dd_app x t hx ht]
  have : 0 < x.length := List.length_pos_iff.2 hne
  simp [this]
theorem cutD_all (x : List UInt8) (hx : allDig x) (hne : x ≠ []) : cutDigitsP x = ([], true) := by
  have := cutD_app x [] hx hne (fun b h => by simp at h)
  rwa [List.append_nil] at this
theorem cutD_not (b : UInt8) (t : List UInt8) (h : digU b = false) : cutDigitsP (b :: t) = (b :: t, false) := by
  unfold cutDigitsP
  rw [dd_not b t h]
  simp

theorem pre_cons (b c : UInt8) (t : List UInt8) : Lib.hasPrefix (b :: t) [c] = (c == b) := by
  unfold Lib.hasPrefix
  simp [List.isPrefixOf]
theorem pre_nil (c : UInt8) : Lib.hasPrefix [] [c] = false := rfl
theorem trim_yes (c : UInt8) (t : List UInt8) : Lib.trimPrefix (c :: t) [c] = t := by
  unfold Lib.trimPrefix
  rw [pre_cons, beq_self_eq_true, if_pos rfl]
  rfl
theorem trim_no (b c : UInt8) (t : List UInt8) (h : (c == b) = false) : Lib.trimPrefix (b :: t) [c] = b :: t := by
  unfold Lib.trimPrefix
  rw [pre_cons, h]
  rfl

/-- A sign or none. -/
def isSgn (l : List UInt8) : Prop := l = [] ∨ l = [45]

theorem dig_ne {b : UInt8} (h : digU b = true) (c : UInt8) (hc : digU c = false) : (c == b) = false := by
  rw [beq_eq_false_iff_ne]
  rintro rfl
  rw [hc] at h
  cases h

theorem cutW_app (x t : List UInt8) (hx : IsNat x) (ht : noDig t) : cutWholeP (x ++ t) = (t, true) := by
  unfold cutWholeP
  rcases hx.lead with rfl | h
  · rw [show [48] ++ t = 48 :: t from rfl, pre_cons, beq_self_eq_true, if_pos rfl, trim_yes]
  · match x, hx.ne, h with
    | b :: r, _, h =>
      rw [List.cons_append, pre_cons]
      have hb : ((48 : UInt8) == b) = false := by
        rw [beq_eq_false_iff_ne]
        rintro rfl
        exact h rfl
      rw [hb, ← List.cons_append]
      exact cutD_app _ t hx.dig hx.ne ht

theorem numW_app (sg x t : List UInt8) (hs : isSgn sg) (hx : IsNat x) (ht : noDig t) : numW (sg ++ (x ++ t)) = (t, true) := by
  unfold numW
  rcases hs with rfl | rfl
  · match x, hx with
    | [], hx => exact absurd rfl hx.ne
    | b :: r, hx =>
      rw [List.nil_append, List.cons_append, trim_no b 45 _ (dig_ne (hx.dig b (by simp)) 45 (by decide)), ← List.cons_append]
      exact cutW_app _ t hx ht
  · rw [show [45] ++ (x ++ t) = 45 :: (x ++ t) from rfl, trim_yes]
    exact cutW_app x t hx ht
/-- No digit at the front: no number. -/
theorem numW_not (b : UInt8) (t : List UInt8) (h45 : (45 == b) = false) (h48 : (48 == b) = false) (hd : digU b = false) : (numW (b :: t)).2 = false := by
  unfold numW cutWholeP
  rw [trim_no b 45 t h45, pre_cons, h48]
  exact congrArg Prod.snd (cutD_not b t hd)

theorem numOk_of {l : List UInt8} (hl : l.length ≤ 40) (h1 : (numW l).2 = true) (h2 : (numF l).2 = true) (h3 : (numE l) = ([], true)) : numOk l = true := by
  unfold numOk
  rw [h1, h2, h3, decide_eq_true hl]
  rfl
theorem not_of_W {l : List UInt8} (h : (numW l).2 = false) : numOk l = false := by unfold numOk; rw [h]; simp
theorem not_of_F {l : List UInt8} (h : (numF l).2 = false) : numOk l = false := by unfold numOk; rw [h]; simp
theorem not_of_E {l : List UInt8} (h : (numE l).2 = false) : numOk l = false := by unfold numOk; rw [h]; simp
theorem not_of_R {l : List UInt8} (h : (numE l).1 ≠ []) : numOk l = false := by
  unfold numOk
  cases he : (numE l).1 with
  | nil => exact absurd he h
  | cons b r => simp

theorem fr_no (b : UInt8) (t : List UInt8) (h : (46 == b) = false) : cutFractionP (b :: t) = (b :: t, true) := by
  unfold cutFractionP; rw [pre_cons, h]; rfl
theorem fr_nil : cutFractionP [] = ([], true) := rfl
theorem fr_yes (t : List UInt8) : cutFractionP (46 :: t) = cutDigitsP t := by
  unfold cutFractionP; rw [pre_cons, beq_self_eq_true, if_pos rfl, trim_yes]
theorem ex_nil : cutExponentP [] = ([], true) := rfl
theorem ex_no (b : UInt8) (t : List UInt8) (h : ([101, 69] : List UInt8).contains b = false) : cutExponentP (b :: t) = (b :: t, true) := by
  have h2 : beginB (b :: t) [101, 69] = false := h
  unfold cutExponentP; rw [h2]; rfl
theorem ex_yes (b : UInt8) (t : List UInt8) (h : ([101, 69] : List UInt8).contains b = true) : cutExponentP (b :: t) = cutDigitsP (signCut t) := by
  have h2 : beginB (b :: t) [101, 69] = true := h
  unfold cutExponentP; rw [h2]; rfl
theorem sign_dig (z : List UInt8) (hz : allDig z) : signCut z = z := by
  match z, hz with
  | [], _ => rfl
  | b :: r, hz =>
    have hb := hz b (by simp)
    unfold signCut beginB
    have : ([43, 45] : List UInt8).contains b = false := by
      simp only [List.contains_cons, List.contains_nil, Bool.or_false, Bool.or_eq_false_iff]
      constructor
      · rw [beq_eq_false_iff_ne]; rintro rfl; exact absurd hb (by decide)
      · rw [beq_eq_false_iff_ne]; rintro rfl; exact absurd hb (by decide)
    simp only [this]
    rfl
theorem sign_dig_app (z t : List UInt8) (hz : allDig z) (hne : z ≠ []) : signCut (z ++ t) = z ++ t := by
  match z, hz, hne with
  | b :: r, hz, _ =>
    have hb := hz b (by simp)
    have : ([43, 45] : List UInt8).contains b = false := by
      simp only [List.contains_cons, List.contains_nil, Bool.or_false, Bool.or_eq_false_iff]
      constructor
      · rw [beq_eq_false_iff_ne]; rintro rfl; exact absurd hb (by decide)
      · rw [beq_eq_false_iff_ne]; rintro rfl; exact absurd hb (by decide)
    show (if beginB (b :: (r ++ t)) [43, 45] then _ else _) = _
    have h2 : beginB (b :: (r ++ t)) [43, 45] = false := this
    rw [h2]
    rfl

theorem form1 {sg x : List UInt8} (hs : isSgn sg) (hx : IsNat x) (hl : (sg ++ (x ++ [])).length ≤ 40) : numOk (sg ++ (x ++ [])) = true ∧ numWhole (sg ++ (x ++ [])) = true := by
  have w := numW_app sg x [] hs hx (fun b h => by simp at h)
  have f : numF (sg ++ (x ++ [])) = ([], true) := by unfold numF; rw [w]; rfl
  have e : numE (sg ++ (x ++ [])) = ([], true) := by unfold numE; rw [f]; rfl
  have h := numOk_of hl (by rw [w]) (by rw [f]) e
  exact ⟨h, by unfold numWhole; rw [h, w]; rfl⟩
theorem form2 {sg x y : List UInt8} (hs : isSgn sg) (hx : IsNat x) (hy : IsNat y) (hl : (sg ++ (x ++ 46 :: y)).length ≤ 40) : numOk (sg ++ (x ++ 46 :: y)) = true ∧ numWhole (sg ++ (x ++ 46 :: y)) = false := by
  have w := numW_app sg x (46 :: y) hs hx (fun c hc => by simp at hc; subst hc; decide)
  have f : numF (sg ++ (x ++ 46 :: y)) = ([], true) := by unfold numF; rw [w]; exact (fr_yes y).trans (cutD_all y hy.dig hy.ne)
  have e : numE (sg ++ (x ++ 46 :: y)) = ([], true) := by unfold numE; rw [f]; rfl
  exact ⟨numOk_of hl (by rw [w]) (by rw [f]) e, by unfold numWhole; rw [w]; simp⟩
theorem form3 {sg x z : List UInt8} (hs : isSgn sg) (hx : IsNat x) (hz : IsNat z) (hl : (sg ++ (x ++ 101 :: z)).length ≤ 40) : numOk (sg ++ (x ++ 101 :: z)) = true ∧ numWhole (sg ++ (x ++ 101 :: z)) = false := by
  have w := numW_app sg x (101 :: z) hs hx (fun c hc => by simp at hc; subst hc; decide)
  have f : numF (sg ++ (x ++ 101 :: z)) = (101 :: z, true) := by unfold numF; rw [w]; exact fr_no 101 z (by decide)
  have e : numE (sg ++ (x ++ 101 :: z)) = ([], true) := by unfold numE; rw [f]; exact (ex_yes 101 z (by decide)).trans (by rw [sign_dig z hz.dig]; exact cutD_all z hz.dig hz.ne)
  exact ⟨numOk_of hl (by rw [w]) (by rw [f]) e, by unfold numWhole; rw [w]; simp⟩
theorem form4 {sg x y z : List UInt8} (hs : isSgn sg) (hx : IsNat x) (hy : IsNat y) (hz : IsNat z) (hl : (sg ++ (x ++ 46 :: (y ++ 69 :: 45 :: z))).length ≤ 40) : numOk (sg ++ (x ++ 46 :: (y ++ 69 :: 45 :: z))) = true ∧ numWhole (sg ++ (x ++ 46 :: (y ++ 69 :: 45 :: z))) = false := by
  have w := numW_app sg x (46 :: (y ++ 69 :: 45 :: z)) hs hx (fun c hc => by simp at hc; subst hc; decide)
  have f : numF (sg ++ (x ++ 46 :: (y ++ 69 :: 45 :: z))) = (69 :: 45 :: z, true) := by unfold numF; rw [w]; exact (fr_yes _).trans (cutD_app y _ hy.dig hy.ne (fun c hc => by simp at hc; subst hc; decide))
  have e : numE (sg ++ (x ++ 46 :: (y ++ 69 :: 45 :: z))) = ([], true) := by unfold numE; rw [f]; exact (ex_yes 69 (45 :: z) (by decide)).trans (show cutDigitsP z = _ from cutD_all z hz.dig hz.ne)
  exact ⟨numOk_of hl (by rw [w]) (by rw [f]) e, by unfold numWhole; rw [w]; simp⟩
theorem bad_a {sg x : List UInt8} (hs : isSgn sg) (hx : IsNat x) : numOk (sg ++ (x ++ [46])) = false := by
  have w := numW_app sg x [46] hs hx (fun c hc => by simp at hc; subst hc; decide)
  exact not_of_F (by unfold numF; rw [w]; rfl)
theorem bad_b {sg x : List UInt8} (hs : isSgn sg) (hx : IsNat x) : numOk (sg ++ (x ++ [101])) = false := by
  have w := numW_app sg x [101] hs hx (fun c hc => by simp at hc; subst hc; decide)
  have f : numF (sg ++ (x ++ [101])) = ([101], true) := by unfold numF; rw [w]; exact fr_no 101 [] (by decide)
  exact not_of_E (by unfold numE; rw [f]; rfl)
theorem bad_c {sg x : List UInt8} (hs : isSgn sg) (hx : IsNat x) : numOk (sg ++ (x ++ [101, 43])) = false := by
  have w := numW_app sg x [101, 43] hs hx (fun c hc => by simp at hc; subst hc; decide)
  have f : numF (sg ++ (x ++ [101, 43])) = ([101, 43], true) := by unfold numF; rw [w]; exact fr_no 101 [43] (by decide)
  exact not_of_E (by unfold numE; rw [f]; rfl)
/-- A sign that is none behind a number. -/
theorem bad_tail {sg x : List UInt8} (hs : isSgn sg) (hx : IsNat x) (b : UInt8) (hb : digU b = false) (h46 : (46 == b) = false) (he : ([101, 69] : List UInt8).contains b = false) : numOk (sg ++ (x ++ [b])) = false := by
  have w := numW_app sg x [b] hs hx (fun c hc => by simp at hc; subst hc; exact hb)
  have f : numF (sg ++ (x ++ [b])) = ([b], true) := by unfold numF; rw [w]; exact fr_no b [] h46
  have e : numE (sg ++ (x ++ [b])) = ([b], true) := by unfold numE; rw [f]; exact ex_no b [] he
  exact not_of_R (by rw [e]; simp)
theorem bad_j {sg x y z : List UInt8} (hs : isSgn sg) (hx : IsNat x) (hy : IsNat y) : numOk (sg ++ (x ++ 46 :: (y ++ 46 :: z))) = false := by
  have w := numW_app sg x (46 :: (y ++ 46 :: z)) hs hx (fun c hc => by simp at hc; subst hc; decide)
  have f : numF (sg ++ (x ++ 46 :: (y ++ 46 :: z))) = (46 :: z, true) := by unfold numF; rw [w]; exact (fr_yes _).trans (cutD_app y _ hy.dig hy.ne (fun c hc => by simp at hc; subst hc; decide))
  have e : numE (sg ++ (x ++ 46 :: (y ++ 46 :: z))) = (46 :: z, true) := by unfold numE; rw [f]; exact ex_no 46 z (by decide)
  exact not_of_R (by rw [e]; simp)
theorem bad_k {sg x z : List UInt8} (hs : isSgn sg) (hx : IsNat x) (hz : IsNat z) : numOk (sg ++ (x ++ 101 :: (z ++ 101 :: z))) = false := by
  have w := numW_app sg x (101 :: (z ++ 101 :: z)) hs hx (fun c hc => by simp at hc; subst hc; decide)
  have f : numF (sg ++ (x ++ 101 :: (z ++ 101 :: z))) = (101 :: (z ++ 101 :: z), true) := by unfold numF; rw [w]; exact fr_no 101 _ (by decide)
  have e : numE (sg ++ (x ++ 101 :: (z ++ 101 :: z))) = (101 :: z, true) := by unfold numE; rw [f]; exact (ex_yes 101 _ (by decide)).trans (by rw [sign_dig_app z _ hz.dig hz.ne]; exact cutD_app z _ hz.dig hz.ne (fun c hc => by simp at hc; subst hc; decide))
  exact not_of_R (by rw [e]; simp)
theorem bad_front  (b : UInt8) (t : List UInt8) (h45 : (45 == b) = false) (h48 : (48 == b) = false) (hd : digU b = false) : numOk (b :: t) = false := not_of_W (numW_not b t h45 h48 hd)
theorem bad_minus  (t : List UInt8) : numOk (45 :: 45 :: t) = false := not_of_W (by
  unfold numW cutWholeP
  rw [trim_yes, pre_cons, show ((48 : UInt8) == 45) = false from by decide]
  exact congrArg Prod.snd (cutD_not 45 t (by decide)))
theorem bad_zero {y : List UInt8} (hy : IsNat y) : numOk (48 :: y) = false := by
  have w : numW (48 :: y) = (y, true) := by
    unfold numW cutWholeP
    rw [trim_no 48 45 y (by decide), pre_cons, beq_self_eq_true, if_pos rfl, trim_yes]
  match y, hy with
  | [], hy => exact absurd rfl hy.ne
  | b :: r, hy =>
    have hb := hy.dig b (by simp)
    have f : numF (48 :: b :: r) = (b :: r, true) := by unfold numF; rw [w]; exact fr_no b r (dig_ne hb 46 (by decide))
    have e : numE (48 :: b :: r) = (b :: r, true) := by
      unfold numE; rw [f]
      refine ex_no b r ?_
      simp only [List.contains_cons, List.contains_nil, Bool.or_false, Bool.or_eq_false_iff]
      constructor
      · rw [beq_eq_false_iff_ne]; rintro rfl; exact absurd hb (by decide)
      · rw [beq_eq_false_iff_ne]; rintro rfl; exact absurd hb (by decide)
    exact not_of_R (by rw [e]; simp)

end Go.Proofs.YtibkncgfdhflgaaGreatDoor
