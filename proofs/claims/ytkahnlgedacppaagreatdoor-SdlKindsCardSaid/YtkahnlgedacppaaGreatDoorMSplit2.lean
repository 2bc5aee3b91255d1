/-
  What runes.trimBlank answers.
-/
import Derived.Test.YtkahnlgedacppaaGreatDoorMLeast
import Derived.Test.YtkahnlgedacppaaGreatDoorMShelf
namespace Go.Proofs.YtkahnlgedacppaaGreatDoor
open Go.RowKit

def blankS (x : ByteArray) : Bool := blankB (bl x)
def trimFront (xs : List ByteArray) : List ByteArray := xs.dropWhile blankS
def trimBack (xs : List ByteArray) : List ByteArray := (xs.reverse.dropWhile blankS).reverse
def trimS (xs : List ByteArray) : List ByteArray := trimBack (trimFront xs)

theorem front_cons (x : ByteArray) (r : List ByteArray) (h : blankS x = true) : trimFront (x :: r) = trimFront r := by
  unfold trimFront; rw [List.dropWhile_cons, if_pos h]
theorem front_stop (x : ByteArray) (r : List ByteArray) (h : blankS x = false) : trimFront (x :: r) = x :: r := by
  unfold trimFront; rw [List.dropWhile_cons, if_neg (by simp [h])]
theorem back_snoc (r : List ByteArray) (x : ByteArray) (h : blankS x = true) : trimBack (r ++ [x]) = trimBack r := by
  unfold trimBack; rw [List.reverse_append, List.reverse_singleton, List.singleton_append, List.dropWhile_cons, if_pos h]
theorem back_stop (r : List ByteArray) (x : ByteArray) (h : blankS x = false) : trimBack (r ++ [x]) = r ++ [x] := by
  unfold trimBack; rw [List.reverse_append, List.reverse_singleton, List.singleton_append, List.dropWhile_cons, if_neg (by simp [h])]; simp

theorem blank_is (s : ByteArray) (w : World) (b : Bool) (h : blankS s = b) :
    Calls Tryz.prog 313 #[.string s] w fun e w' => e = .returned (.bool b) ∧ Below w.heap.size w w' := by
  subst h
  exact isBlank_any s w

def lenV : Value → Nat
  | .slice _ n _ => n
  | _ => 0

theorem nil_or_snoc (l : List ByteArray) : l = [] ∨ ∃ r y, l = r ++ [y] := by
  by_cases h : l = []
  · exact .inl h
  · exact .inr ⟨l.dropLast, l.getLast h, (List.dropLast_concat_getLast h).symm⟩

/-- A slice value that reads as these strings, in block g. -/
def SliceOf (w : World) (g : Nat) (v : Value) (xs : List ByteArray) : Prop := ∃ off cap, v = .slice (some ⟨g, off, none⟩) xs.length cap ∧ xs.length ≤ cap ∧ cap ≤ maxLen ∧ RowAt w g off xs

def TrimPost (w : World) (g : Nat) (xs : List ByteArray) (e : Ending) (w' : World) : Prop := ∃ v, e = .returned v ∧ SliceOf w' g v (trimS xs) ∧ Below w.heap.size w w'

theorem rowAt_tail {w : World} {g off : Nat} {x : ByteArray} {r : List ByteArray} (h : RowAt w g off (x :: r)) : RowAt w g (off + 1) r := by
  refine ⟨h.1, fun i y hy => ?_⟩
  have := h.2 (i + 1) y (by simpa using hy)
  rw [show off + 1 + i = off + (i + 1) by omega]
  exact this
theorem rowAt_init {w : World} {g off : Nat} {x : ByteArray} {r : List ByteArray} (h : RowAt w g off (r ++ [x])) : RowAt w g off r := by
  refine ⟨h.1, fun i y hy => ?_⟩
  refine h.2 i y ?_
  rw [List.getElem?_append_left (List.getElem?_eq_some_iff.1 hy).1]
  exact hy

set_option maxHeartbeats 2000000 in
theorem trimBlank_any (xs : List ByteArray) (g : Nat) (v : Value) (w : World) (hv : SliceOf w g v xs) (hl : xs.length ≤ 1000000000) :
    Calls Tryz.prog 279 #[v] w (TrimPost w g xs) := by
  obtain ⟨off, cap, rfl, hcap, hcm, hr⟩ := hv
  unfold maxLen at hcm
  go_enter Tryz.func279, Tryz.ntmps279
  go_wp2_with fail
  go_loopw [0] (fun a wr => ∃ (ys : List ByteArray) (o c : Nat), a = .slice (some ⟨g, o, none⟩) ys.length c ∧ ys.length ≤ c ∧ c ≤ cap ∧ ys.length ≤ xs.length ∧ RowAt wr g o ys ∧ Below w.heap.size w wr ∧ Hid (trimFront xs = trimFront ys)) (fun a _ => lenV a)
  case atStart => exact ⟨xs, off, cap, rfl, hcap, Nat.le_refl _, Nat.le_refl _, hr, Below.refl _ _, Lib.hid rfl⟩
  case round =>
    obtain ⟨ys, o, c, rfl, hyc, hcc, hyx, hry, hbw, HT⟩ := hrel
    cases ys with
    | nil =>
      have HF := Lib.hid (show trimFront xs = [] by rw [HT.out]; rfl)
      go_wp2_with fail
      go_loopw [0] (fun a wr => ∃ (zs : List ByteArray) (c2 : Nat), a = .slice (some ⟨g, o, none⟩) zs.length c2 ∧ zs.length ≤ c2 ∧ c2 ≤ cap ∧ zs.length ≤ xs.length ∧ RowAt wr g o zs ∧ Below w.heap.size w wr ∧ Hid (trimS xs = trimBack zs)) (fun a _ => lenV a)
      case atStart => exact ⟨[], c, rfl, hyc, hcc, hyx, hry, hbw, Lib.hid (by unfold trimS; rw [HF.out])⟩
      case round =>
        obtain ⟨zs, c2, rfl, hzc, hzcc, hzx, hrz, hbz, HZ⟩ := hrel
        rcases nil_or_snoc zs with rfl | ⟨r2, y, rfl⟩
        · go_wp2_with fail
          go_ret
          exact ⟨_, rfl, ⟨o, c2, by rw [HZ.out]; rfl, by rw [HZ.out]; exact Nat.zero_le _, by unfold maxLen; omega, by rw [HZ.out]; exact hrz⟩, hbz⟩
        · have hlen2 : (r2 ++ [y]).length = r2.length + 1 := by simp
          rw [hlen2]
          rw [hlen2] at hzc hzx
          have hcl : wr.cell? ⟨g, o + r2.length, none⟩ = some (.string y) := hrz.2 r2.length y (by simp)
          clear hlen2
          cases hb2 : blankS y with
          | true =>
            have HB2 := Lib.hid hb2
            clear hb2
            go_wp2_with fail
            refine (blank_is y _ true HB2.out).mono ?_
            rintro e w2 ⟨rfl, b2⟩
            have hs2 := hbz.size
            have hbz2 := hbz.trans (b2.mono hs2)
            have hrz2 := hrz.below b2
            clear hcl
            go_wp2_with fail
            go_roundw
            case rel =>
              have hrel2 : ∃ (zs : List ByteArray) (c' : Nat), Value.slice (some ⟨g, o, none⟩) r2.length c2 = .slice (some ⟨g, o, none⟩) zs.length c' ∧ zs.length ≤ c' ∧ c' ≤ cap ∧ zs.length ≤ xs.length ∧ RowAt w2 g o zs ∧ Below w.heap.size w w2 ∧ Hid (trimS xs = trimBack zs) := ⟨r2, c2, rfl, by omega, hzcc, by omega, rowAt_init hrz2, hbz2, Lib.hid (by rw [HZ.out, back_snoc r2 y HB2.out])⟩
              first | exact hrel2 | ((repeat apply Exists.intro); exact ⟨hrel2, rfl⟩)
            case measure => simp [lenV]
          | false =>
            have HB2 := Lib.hid hb2
            clear hb2
            go_wp2_with fail
            refine (blank_is y _ false HB2.out).mono ?_
            rintro e w2 ⟨rfl, b2⟩
            have hs2 := hbz.size
            have hbz2 := hbz.trans (b2.mono hs2)
            have hrz2 := hrz.below b2
            clear hcl
            go_wp2_with fail
            go_ret
            have HE : trimS xs = r2 ++ [y] := by rw [HZ.out, back_stop r2 y HB2.out]
            exact ⟨_, rfl, ⟨o, c2, by rw [HE]; simp, by rw [HE]; simp; omega, by unfold maxLen; omega, by rw [HE]; exact hrz2⟩, hbz2⟩
    | cons x r =>
      have hc0 : wr.cell? ⟨g, o, none⟩ = some (.string x) := hry.2 0 x rfl
      have hlen : (x :: r).length = r.length + 1 := rfl
      rw [hlen]
      rw [hlen] at hyc hyx
      cases hb : blankS x with
      | true =>
        have HB := Lib.hid hb
        clear hb hlen
        go_wp2_with fail
        refine (blank_is x _ true HB.out).mono ?_
        rintro e w1 ⟨rfl, b1⟩
        have hs1 := hbw.size
        have hbw1 := hbw.trans (b1.mono hs1)
        have hry1 := hry.below b1
        clear hc0
        by_cases hc1 : c = 1
        · subst hc1
          have hr0 : r = [] := List.eq_nil_of_length_eq_zero (by omega)
          subst hr0
          go_wp2_with fail
          go_roundw
          case rel => exact ⟨[], o, 0, rfl, Nat.zero_le _, Nat.zero_le _, Nat.zero_le _, ⟨hry1.1, fun i y hy => by simp at hy⟩, hbw1, Lib.hid (by rw [HT.out, front_cons x [] HB.out])⟩
          case measure => simp [lenV]
        · go_wp2_with fail
          go_roundw
          case rel => exact ⟨r, o + 1, c - 1, rfl, by omega, by omega, by omega, rowAt_tail hry1, hbw1, Lib.hid (by rw [HT.out, front_cons x r HB.out])⟩
          case measure => simp [lenV]
      | false =>
        have HB := Lib.hid hb
        have HF := Lib.hid (show trimFront xs = x :: r by rw [HT.out, front_stop x r hb])
        clear hb hlen
        go_wp2_with fail
        refine (blank_is x _ false HB.out).mono ?_
        rintro e w1 ⟨rfl, b1⟩
        have hs1 := hbw.size
        have hbw1 := hbw.trans (b1.mono hs1)
        have hry1 := hry.below b1
        clear hc0
        go_wp2_with fail
        go_loopw [0] (fun a wr => ∃ (zs : List ByteArray) (c2 : Nat), a = .slice (some ⟨g, o, none⟩) zs.length c2 ∧ zs.length ≤ c2 ∧ c2 ≤ cap ∧ zs.length ≤ xs.length ∧ RowAt wr g o zs ∧ Below w.heap.size w wr ∧ Hid (trimS xs = trimBack zs)) (fun a _ => lenV a)
        case atStart => exact ⟨x :: r, c, rfl, hyc, hcc, hyx, hry1, hbw1, Lib.hid (by unfold trimS; rw [HF.out])⟩
        case round =>
          obtain ⟨zs, c2, rfl, hzc, hzcc, hzx, hrz, hbz, HZ⟩ := hrel
          rcases nil_or_snoc zs with rfl | ⟨r2, y, rfl⟩
          · go_wp2_with fail
            go_ret
            exact ⟨_, rfl, ⟨o, c2, by rw [HZ.out]; rfl, by rw [HZ.out]; exact Nat.zero_le _, by unfold maxLen; omega, by rw [HZ.out]; exact hrz⟩, hbz⟩
          · have hlen2 : (r2 ++ [y]).length = r2.length + 1 := by simp
            rw [hlen2]
            rw [hlen2] at hzc hzx
            have hcl : wr.cell? ⟨g, o + r2.length, none⟩ = some (.string y) := hrz.2 r2.length y (by simp)
            clear hlen2
            cases hb2 : blankS y with
            | true =>
              have HB2 := Lib.hid hb2
              clear hb2
              go_wp2_with fail
              refine (blank_is y _ true HB2.out).mono ?_
              rintro e w2 ⟨rfl, b2⟩
              have hs2 := hbz.size
              have hbz2 := hbz.trans (b2.mono hs2)
              have hrz2 := hrz.below b2
              clear hcl
              go_wp2_with fail
              go_roundw
              case rel =>
                have hrel2 : ∃ (zs : List ByteArray) (c' : Nat), Value.slice (some ⟨g, o, none⟩) r2.length c2 = .slice (some ⟨g, o, none⟩) zs.length c' ∧ zs.length ≤ c' ∧ c' ≤ cap ∧ zs.length ≤ xs.length ∧ RowAt w2 g o zs ∧ Below w.heap.size w w2 ∧ Hid (trimS xs = trimBack zs) := ⟨r2, c2, rfl, by omega, hzcc, by omega, rowAt_init hrz2, hbz2, Lib.hid (by rw [HZ.out, back_snoc r2 y HB2.out])⟩
                first | exact hrel2 | ((repeat apply Exists.intro); exact ⟨hrel2, rfl⟩)
              case measure => simp [lenV]
            | false =>
              have HB2 := Lib.hid hb2
              clear hb2
              go_wp2_with fail
              refine (blank_is y _ false HB2.out).mono ?_
              rintro e w2 ⟨rfl, b2⟩
              have hs2 := hbz.size
              have hbz2 := hbz.trans (b2.mono hs2)
              have hrz2 := hrz.below b2
              clear hcl
              go_wp2_with fail
              go_ret
              have HE : trimS xs = r2 ++ [y] := by rw [HZ.out, back_stop r2 y HB2.out]
              exact ⟨_, rfl, ⟨o, c2, by rw [HE]; simp, by rw [HE]; simp; omega, by unfold maxLen; omega, by rw [HE]; exact hrz2⟩, hbz2⟩

end Go.Proofs.YtkahnlgedacppaaGreatDoor
/-
  What runes.joinLines answers.
-/
namespace Go.Proofs.YtkahnlgedacppaaGreatDoor
open Go.RowKit

def joinB : List (List UInt8) → List UInt8
  | [] => []
  | x :: r => x ++ r.flatMap fun y => 10 :: y

theorem joinB_snoc (xs : List (List UInt8)) (x : List UInt8) : joinB (xs ++ [x]) = joinB xs ++ ((if xs.length = 0 then [] else [10]) ++ x) := by
  cases xs with
  | nil => simp [joinB]
  | cons a r => simp [joinB]

theorem joinB_take_le (xs : List (List UInt8)) (j : Nat) : (joinB (xs.take j)).length ≤ (joinB xs).length := by
  cases xs with
  | nil => simp
  | cons a r =>
    cases j with
    | zero => simp [joinB]
    | succ j =>
      rw [List.take_succ_cons]
      simp only [joinB, List.length_append]
      have h : ((r.take j).flatMap fun y => 10 :: y).length ≤ (r.flatMap fun y => 10 :: y).length := by
        conv => rhs; rw [← List.take_append_drop j r, List.flatMap_append, List.length_append]
        omega
      omega

set_option maxHeartbeats 1000000 in
theorem joinLines_any (xs : List ByteArray) (g : Nat) (v : Value) (w : World) (hv : SliceOf w g v xs) (hl : xs.length ≤ 1000000000) (hj : (joinB (xs.map bl)).length ≤ 1000000000000) :
    Calls Tryz.prog 278 #[v] w (StrBelow w (joinB (xs.map bl))) := by
  obtain ⟨off, cap, rfl, hcap, hcm, hr⟩ := hv
  unfold maxLen at hcm
  have HB := Bld.fresh 130 [] w
  have hbA : Below w.heap.size w (w.alloc (.cells #[.pointer none, .slice none 0 0] 130)) := (Below.refl _ w).alloc (Nat.le_refl _) _
  have hgl := hr.1
  go_enter Tryz.func278, Tryz.ntmps278
  go_wp2_with fail
  go_loopw [8] (fun i wr => ∃ (j : Nat) (acc : List UInt8), j ≤ xs.length ∧ i = .int .i64 j ∧ Bld 130 w.heap.size w.heap.size [] (Lib.byteCells acc) wr ∧ Below w.heap.size w wr ∧ Hid (acc = joinB ((xs.map bl).take j))) (fun i _ => xs.length - (intOf i).toNat)
  case atStart => exact ⟨0, [], Nat.zero_le _, rfl, HB, hbA, Lib.hid rfl⟩
  case round =>
    obtain ⟨j, acc, hjl, rfl, hB, hbw, HA⟩ := hrel
    clear HB hbA
    have hlt := hB.lt
    have hr2 := hr.below hbw
    by_cases hlt2 : j < xs.length
    · obtain ⟨x, hx⟩ : ∃ x, xs[j]? = some x := ⟨xs[j], List.getElem?_eq_getElem hlt2⟩
      have hc := hr2.2 j x hx
      have HN := Lib.hid (show joinB ((xs.map bl).take (j + 1)) = acc ++ ((if j = 0 then [] else [10]) ++ bl x) by
        rw [take_next (xs.map bl) j (bl x) (by rw [List.getElem?_map, hx]; rfl), joinB_snoc, ← HA.out]
        have : ((xs.map bl).take j).length = j := by rw [List.length_take, List.length_map]; omega
        rw [this])
      have hjt2 : acc.length + (if j = 0 then 0 else 1) + x.size ≤ 1000000000000 := by
        have h := joinB_take_le (xs.map bl) (j + 1)
        rw [HN.out, List.length_append, List.length_append] at h
        have hxl : (bl x).length = x.size := rfl
        split at h
        · rename_i h0; rw [if_pos h0]; simp at h; omega
        · rename_i h0; rw [if_neg h0]; simp at h; omega
      clear hx
      by_cases hj0 : j = 0
      · subst hj0
        have hc0 : wr.cell? ⟨g, off, none⟩ = some (.string x) := hc
        rw [if_pos rfl] at hjt2
        clear hc
        go_wp2_with fail
        refine (writeString_any x Fit.plain hB (by rw [Lib.byteCells_length]; omega) (by omega)).mono ?_
        rintro e w1 ⟨rfl, h1, b1, k1⟩
        go_wp2_with fail
        go_roundw
        case rel => exact ⟨1, acc ++ bl x, by omega, rfl, by rw [Lib.byteCells_append]; exact h1, hbw.trans b1, Lib.hid (by rw [HN.out]; rfl)⟩
        case measure => simp [intOf]; omega
      · have f0 : decide ((0 : Int) < (j : Int)) = true := by simp; omega
        have HJ := Lib.hid hj0
        rw [if_neg hj0] at hjt2
        go_wp2_with fail
        refine (writeByte_any 10 Fit.plain hB (by rw [Lib.byteCells_length]; omega) (by omega)).mono ?_
        rintro e w1 ⟨rfl, h1, b1, k1⟩
        have hs1 := b1.size
        go_wp2_with fail
        refine (writeString_any x Fit.plain h1 (by simp [Lib.byteCells_length]; omega) (by omega)).mono ?_
        rintro e w2 ⟨rfl, h2, b2, k2⟩
        go_wp2_with fail
        go_roundw
        case rel =>
          refine ⟨j + 1, acc ++ ([10] ++ bl x), by omega, by go_num, ?_, (hbw.trans b1).trans b2, Lib.hid (by rw [HN.out, if_neg HJ.out])⟩
          rw [Lib.byteCells_append, Lib.byteCells_append, ← List.append_assoc]
          exact h2
        case measure => simp [intOf]; omega
    · go_wp2_with fail
      refine (string_any acc hB (by omega)).mono ?_
      rintro e w1 ⟨rfl, b1⟩
      go_wp2_with fail
      go_ret
      refine strBelow_mk ?_ (hbw.trans b1)
      rw [HA.out, List.take_of_length_le (by rw [List.length_map]; omega)]

end Go.Proofs.YtkahnlgedacppaaGreatDoor
/-
  Plain facts: what is right UTF-8 side by side; what is quoted is unquoted; cut it is none.
-/
namespace Go.Proofs.YtkahnlgedacppaaGreatDoor
open Go.Lib

end Go.Proofs.YtkahnlgedacppaaGreatDoor
/-
  What runes.splitLines answers.
-/
namespace Go.Proofs.YtkahnlgedacppaaGreatDoor
open Go.RowKit

/-- A text's lines: what stands in the line so far; was the last one 13? -/
def linesG (cur : List UInt8) (beh : Bool) : List UInt8 → List (List UInt8)
  | [] => [cur]
  | c :: t => if (c == 10 && beh) = true then linesG [] false t else if (c == 10 || c == 13) = true then cur :: linesG [] (c == 13) t else linesG (cur ++ [c]) false t
def linesB (l : List UInt8) : List (List UInt8) := linesG [] false l

theorem linesG_high (a t cur : List UInt8) (beh : Bool) (hne : a ≠ []) (h : ∀ b ∈ a, 128 ≤ b.toNat) : linesG cur beh (a ++ t) = linesG (cur ++ a) false t := by
  induction a generalizing cur beh with
  | nil => exact absurd rfl hne
  | cons b r ih =>
    have hb := h b (by simp)
    have h10 : (b == 10) = false := by
      rw [beq_eq_false_iff_ne]; intro e; subst e; exact absurd hb (by decide)
    have h13 : (b == 13) = false := by
      rw [beq_eq_false_iff_ne]; intro e; subst e; exact absurd hb (by decide)
    rw [List.cons_append]
    simp only [linesG, h10, h13]
    simp only [Bool.false_and, Bool.or_self, Bool.false_eq_true, if_false]
    by_cases hr : r = []
    · subst hr; rfl
    · rw [ih (cur ++ [b]) false hr (fun x hx => h x (by simp [hx]))]
      simp

/-- The bytes of a rune that is no ASCII. -/
theorem rune_high (l : List UInt8) (hne : l ≠ []) (h : 128 ≤ (Lib.decodeL l).1) : ∀ b ∈ l.take (Lib.decodeL l).2, 128 ≤ b.toNat := by
  cases hb : badAt l with
  | false =>
    have hx : ¬ ((Lib.decodeL l).1 = 65533 ∧ (Lib.decodeL l).2 = 1) := by simpa [badAt] using hb
    rw [← Lib.encode_decode l hne hx]
    exact encodeRune_high (by omega)
  | true =>
    have hx : (Lib.decodeL l).1 = 65533 ∧ (Lib.decodeL l).2 = 1 := by simpa [badAt] using hb
    rw [hx.2]
    cases l with
    | nil => exact absurd rfl hne
    | cons c t =>
      intro b hb'
      simp at hb'
      subst hb'
      rcases Nat.lt_or_ge b.toNat 128 with h' | h'
      · rw [Lib.decodeL_ascii b t h'] at h
        simp at h
        omega
      · exact h'

theorem extract_add (s : ByteArray) (a b c : Nat) (hab : a ≤ b) (hbc : b ≤ c) : bl (s.extract a c) = bl (s.extract a b) ++ (s.data.toList.drop b).take (c - b) := by
  unfold bl
  rw [Lib.extract_data, Lib.extract_data]
  have : c - a = (b - a) + (c - b) := by omega
  rw [this, List.take_add, List.drop_drop]
  congr 3
  omega

/-- What one rune does to the lines. -/
theorem lines_other (s : ByteArray) (b pos : Nat) (beh : Bool) (hbp : b ≤ pos) (hp : pos < s.size) (h10 : (Utf8.decode s pos).1 ≠ 10) (h13 : (Utf8.decode s pos).1 ≠ 13) :
    linesG (bl (s.extract b pos)) beh (s.data.toList.drop pos) = linesG (bl (s.extract b (pos + (Utf8.decode s pos).2))) false (s.data.toList.drop (pos + (Utf8.decode s pos).2)) ∧ pos + (Utf8.decode s pos).2 ≤ s.size := by
  have hne := drop_ne s pos hp
  have hle := Lib.decodeL_le _ hne
  rw [Lib.decodeL_drop, len_drop] at hle
  refine ⟨?_, by omega⟩
  by_cases ha : s[pos].toNat < 128
  · have hd := decode_ascii s pos hp ha
    rw [hd] at h10 h13
    simp only at h10 h13
    have e10 : (s[pos] == 10) = false := by
      rw [beq_eq_false_iff_ne]; intro e; rw [e] at h10; exact h10 rfl
    have e13 : (s[pos] == 13) = false := by
      rw [beq_eq_false_iff_ne]; intro e; rw [e] at h13; exact h13 rfl
    rw [hd, extract_add s b pos (pos + 1) hbp (by omega)]
    conv => lhs; rw [drop_cons s pos hp]
    simp only [linesG, e10, e13]
    simp only [Bool.false_and, Bool.or_self, Bool.false_eq_true, if_false]
    congr 2
    rw [drop_cons s pos hp]
    have : pos + 1 - pos = 1 := by omega
    rw [this]
    rfl
  · have hh := (decode_high s pos hp (by omega)).1
    have hb := rune_high _ hne (by rw [Lib.decodeL_drop]; exact hh)
    rw [Lib.decodeL_drop] at hb
    have hw : 1 ≤ (Utf8.decode s pos).2 := by rw [← Lib.decodeL_drop]; exact Lib.decodeL_width _
    conv => lhs; rw [← List.take_append_drop (Utf8.decode s pos).2 (s.data.toList.drop pos)]
    rw [linesG_high _ _ _ _ ?_ hb, List.drop_drop, extract_add s b pos (pos + (Utf8.decode s pos).2) hbp (by omega)]
    · have : pos + (Utf8.decode s pos).2 - pos = (Utf8.decode s pos).2 := by omega
      rw [this]
    · intro e
      have := congrArg List.length e
      rw [List.length_take, len_drop] at this
      simp at this
      omega

theorem byte_of (s : ByteArray) (pos : Nat) (hp : pos < s.size) (n : Nat) (hn : n < 128) (h : (Utf8.decode s pos).1 = n) : s[pos] = UInt8.ofNat n ∧ (Utf8.decode s pos).2 = 1 := by
  by_cases ha : s[pos].toNat < 128
  · have hd := decode_ascii s pos hp ha
    rw [hd] at h ⊢
    simp only at h
    refine ⟨?_, rfl⟩
    rw [← h]
    simp
  · have hh := (decode_high s pos hp (by omega)).1
    omega

theorem lines_10b (s : ByteArray) (b pos : Nat) (hp : pos < s.size) (h : (Utf8.decode s pos).1 = 10) :
    linesG (bl (s.extract b pos)) true (s.data.toList.drop pos) = linesG (bl (s.extract (pos + 1) (pos + 1))) false (s.data.toList.drop (pos + 1)) := by
  have e := (byte_of s pos hp 10 (by omega) h).1
  rw [drop_cons s pos hp, e]
  simp [linesG, bl]
theorem lines_10 (s : ByteArray) (b pos : Nat) (hp : pos < s.size) (h : (Utf8.decode s pos).1 = 10) :
    linesG (bl (s.extract b pos)) false (s.data.toList.drop pos) = bl (s.extract b pos) :: linesG (bl (s.extract (pos + 1) (pos + 1))) false (s.data.toList.drop (pos + 1)) := by
  have e := (byte_of s pos hp 10 (by omega) h).1
  rw [drop_cons s pos hp, e]
  simp [linesG, bl]
theorem lines_13 (s : ByteArray) (b pos : Nat) (beh : Bool) (hp : pos < s.size) (h : (Utf8.decode s pos).1 = 13) :
    linesG (bl (s.extract b pos)) beh (s.data.toList.drop pos) = bl (s.extract b pos) :: linesG (bl (s.extract (pos + 1) (pos + 1))) true (s.data.toList.drop (pos + 1)) := by
  have e := (byte_of s pos hp 13 (by omega) h).1
  rw [drop_cons s pos hp, e]
  simp [linesG, bl]
theorem lines_end (s : ByteArray) (b pos : Nat) (beh : Bool) (hps : pos ≤ s.size) (hp : ¬ pos < s.size) : linesG (bl (s.extract b pos)) beh (s.data.toList.drop pos) = [bl (s.extract b s.size)] := by
  rw [drop_end s pos hp]
  have : pos = s.size := by omega
  subst this
  rfl

end Go.Proofs.YtkahnlgedacppaaGreatDoor
/-
  What runes.splitLines answers: the walk.
-/
namespace Go.Proofs.YtkahnlgedacppaaGreatDoor
open Go.RowKit

def strVals (xs : List ByteArray) : List Value := xs.map fun x => .string x

theorem infoString : ∃ i, Tryz.prog.info? 9 = some i ∧ i.zero = some (.string ⟨#[]⟩) ∧ i.size = 1 ∧ i.bytes = 16 :=
  info_parts (by kernel_rfl)

/-- The loop's relation in runes.splitLines: the iterator in block k, the lines so far in a row of the call's own above it. -/
def SplitRel (s : ByteArray) (w : World) (a b h : Value) (wr : World) : Prop :=
  ∃ (pos beg : Nat) (beh : Bool) (xs : List ByteArray), b = .int .i64 beg ∧ h = .bool beh ∧ wr.ownsRow (w.heap.size + 1) 9 1 a xs.length (strVals xs) ∧ wr.heap[w.heap.size]? = some (.stringIter s pos) ∧ Below w.heap.size w wr ∧
    beg ≤ pos ∧ pos ≤ s.size ∧ xs.length ≤ pos ∧ linesB s.data.toList = xs.map bl ++ linesG (bl (s.extract beg pos)) beh (s.data.toList.drop pos)

def SplitPost (s : ByteArray) (w : World) (e : Ending) (w' : World) : Prop :=
  ∃ (v : Value) (xs : List ByteArray), e = .returned v ∧ w'.ownsRow w.heap.size 9 1 v xs.length (strVals xs) ∧ xs.map bl = linesB s.data.toList ∧ xs ≠ [] ∧ Below w.heap.size w w' ∧ xs.length ≤ s.size + 1

set_option maxHeartbeats 2000000 in
set_option maxRecDepth 100000 in
theorem splitLines_any (s : ByteArray) (w : World) (hs : s.size ≤ 1000000000) :
    Calls Tryz.prog 275 #[.string s] w (SplitPost s w) := by
  obtain ⟨i0, hi, hz0, hz1, hz2⟩ := infoString
  have HI0 := Lib.hid hi
  have HZ0 := Lib.hid hz0
  have HZ1 := Lib.hid hz1
  have HZ2 := Lib.hid hz2
  clear hi hz0 hz1 hz2
  go_enter Tryz.func275, Tryz.ntmps275
  go_wp2_with fail
  go_loopw [3, 4, 5] (fun a b h wr => SplitRel s w a b h wr) (fun _ _ _ wr => s.size - wr.iterPos w.heap.size)
  case atStart =>
    exact ⟨0, 0, false, [], rfl, rfl, World.ownsRow_nil _ _ _ _, World.iter_heap w s 0, (Below.refl _ w).alloc (Nat.le_refl _) _, Nat.le_refl _, Nat.zero_le _, Nat.le_refl _, by simp [linesB, bl]⟩
  case round =>
    obtain ⟨pos, beg, beh, xs, rfl, rfl, hown, hit, hbw, hbp, hps, hxp, hlin⟩ := hrel
    have HL := Lib.hid hlin
    clear hlin
    have hsz : w.heap.size < wr.heap.size := (Array.getElem?_eq_some_iff.1 hit).1
    by_cases hp : pos < s.size
    · have hnx : ∀ ty, (Instr.next (.pointer (some ⟨w.heap.size, 0, none⟩)) true ty).run Tryz.prog wr = _ := fun ty => Lib.run_next_any_at wr w.heap.size s pos ty hit hp
      by_cases h10 : (Utf8.decode s pos).1 = 10
      · have hw1 := (byte_of s pos hp 10 (by omega) h10).2
        rw [h10, hw1] at hnx
        have hbw2 := Lib.below_iterAt hbw (Nat.le_refl _) s (pos + 1)
        have HI := Lib.hid (Lib.iterAt_heap wr w.heap.size s pos (pos + 1) hit)
        have HT := Lib.hid hit
        have hown2 := ownsRow_iterAt hown (k := w.heap.size) (by omega) s (pos + 1)
        have hsz2 : (wr.iterAt w.heap.size s (pos + 1)).heap.size = wr.heap.size := Lib.iterAt_size _ _ _ _
        cases beh with
        | true =>
          have HS := Lib.hid (lines_10b s beg pos hp h10)
          clear h10 hw1 hsz2
          go_wp2_with fail
          go_roundw
          case rel => exact ⟨pos + 1, pos + 1, false, xs, by go_num, rfl, hown2, HI.out, hbw2, Nat.le_refl _, by omega, by omega, by rw [HL.out, HS.out]⟩
          case measure =>
            have e1 := iterPos_of HI.out
            have e2 := iterPos_of HT.out
            omega
        | false =>
          have HS := Lib.hid (lines_10 s beg pos hp h10)
          have hgt : w.heap.size < (wr.iterAt w.heap.size s (pos + 1)).heap.size := by omega
          clear h10 hw1 hsz2
          go_wp2_with (at_builtin; refine wpList_append_own _ rfl _ _ 41 rfl (w.heap.size + 1) 9 i0 (.string ⟨#[]⟩) 1 16 Tryz.underlying41 HI0.out HZ0.out HZ1.out HZ2.out rfl (by decide) _ _ _ rfl (hown2.alloc _) ⟨(wr.iterAt w.heap.size s (pos + 1)).heap.size, 0, none⟩ 1 1 [.string (s.extract beg pos)] rfl rfl ?c1 ?c2 ?c3 ?c4 ?c5 ?_)
          case c1 => exact cell_one_new _ _ _
          case c2 => intro u hu; simp at hu; subst hu; rfl
          case c3 => unfold maxLen; omega
          case c4 => omega
          case c5 => simp; omega
          intro v' w2 hown' hgrow _
          have HIT : Hid (w2.heap[w.heap.size]? = some (.stringIter s (pos + 1))) := by
            refine Lib.hid ?_
            rw [hgrow.block w.heap.size (by simp; omega) (fun e => by have := (hown2.lt _ e.symm).1; omega), Lib.alloc_old _ _ _ (by omega)]
            exact HI.out
          have hbw4 : Below w.heap.size w w2 := (hbw2.alloc (by omega) _).grown hgrow (by simp; omega) (fun k hk => by have := (hown2.lt k hk).1; omega)
          have HOWN := Lib.hid hown'
          clear hown' hgrow
          go_wp2_with fail
          go_roundw
          case rel =>
            refine ⟨pos + 1, pos + 1, false, xs ++ [s.extract beg pos], by go_num, rfl, ?_, HIT.out, hbw4, Nat.le_refl _, by omega, by simp; omega, ?_⟩
            · have := HOWN.out
              simpa [strVals] using this
            · rw [HL.out, HS.out]
              simp
          case measure =>
            have e1 := iterPos_of HIT.out
            have e2 := iterPos_of HT.out
            omega
      · by_cases h13 : (Utf8.decode s pos).1 = 13
        · have hw1 := (byte_of s pos hp 13 (by omega) h13).2
          rw [h13, hw1] at hnx
          have hbw2 := Lib.below_iterAt hbw (Nat.le_refl _) s (pos + 1)
          have HI := Lib.hid (Lib.iterAt_heap wr w.heap.size s pos (pos + 1) hit)
          have HT := Lib.hid hit
          have hown2 := ownsRow_iterAt hown (k := w.heap.size) (by omega) s (pos + 1)
          have hsz2 : (wr.iterAt w.heap.size s (pos + 1)).heap.size = wr.heap.size := Lib.iterAt_size _ _ _ _
          have HS := Lib.hid (lines_13 s beg pos beh hp h13)
          have hgt : w.heap.size < (wr.iterAt w.heap.size s (pos + 1)).heap.size := by omega
          clear h13 h10 hw1 hsz2
          go_wp2_with (at_builtin; refine wpList_append_own _ rfl _ _ 41 rfl (w.heap.size + 1) 9 i0 (.string ⟨#[]⟩) 1 16 Tryz.underlying41 HI0.out HZ0.out HZ1.out HZ2.out rfl (by decide) _ _ _ rfl (hown2.alloc _) ⟨(wr.iterAt w.heap.size s (pos + 1)).heap.size, 0, none⟩ 1 1 [.string (s.extract beg pos)] rfl rfl ?c1 ?c2 ?c3 ?c4 ?c5 ?_)
          case c1 => exact cell_one_new _ _ _
          case c2 => intro u hu; simp at hu; subst hu; rfl
          case c3 => unfold maxLen; omega
          case c4 => omega
          case c5 => simp; omega
          intro v' w2 hown' hgrow _
          have HIT : Hid (w2.heap[w.heap.size]? = some (.stringIter s (pos + 1))) := by
            refine Lib.hid ?_
            rw [hgrow.block w.heap.size (by simp; omega) (fun e => by have := (hown2.lt _ e.symm).1; omega), Lib.alloc_old _ _ _ (by omega)]
            exact HI.out
          have hbw4 : Below w.heap.size w w2 := (hbw2.alloc (by omega) _).grown hgrow (by simp; omega) (fun k hk => by have := (hown2.lt k hk).1; omega)
          have HOWN := Lib.hid hown'
          clear hown' hgrow
          go_wp2_with fail
          go_roundw
          case rel =>
            refine ⟨pos + 1, pos + 1, true, xs ++ [s.extract beg pos], by go_num, rfl, ?_, HIT.out, hbw4, Nat.le_refl _, by omega, by simp; omega, ?_⟩
            · have := HOWN.out
              simpa [strVals] using this
            · rw [HL.out, HS.out]
              simp
          case measure =>
            have e1 := iterPos_of HIT.out
            have e2 := iterPos_of HT.out
            omega
        · have f10 : (((Utf8.decode s pos).1 : Int) == 10) = false := by simp; omega
          have f13 : (((Utf8.decode s pos).1 : Int) == 13) = false := by simp; omega
          obtain ⟨hl1, hl2⟩ := lines_other s beg pos beh hbp hp h10 h13
          have HS := Lib.hid hl1
          have hw : 1 ≤ (Utf8.decode s pos).2 := by rw [← Lib.decodeL_drop]; exact Lib.decodeL_width _
          have hbw2 := Lib.below_iterAt hbw (Nat.le_refl _) s (pos + (Utf8.decode s pos).2)
          have HI := Lib.hid (Lib.iterAt_heap wr w.heap.size s pos (pos + (Utf8.decode s pos).2) hit)
          have HT := Lib.hid hit
          have hown2 := ownsRow_iterAt hown (k := w.heap.size) (by omega) s (pos + (Utf8.decode s pos).2)
          clear h10 h13 hl1
          go_wp2_with fail
          go_roundw
          case rel => exact ⟨pos + (Utf8.decode s pos).2, beg, false, xs, rfl, rfl, hown2, HI.out, hbw2, by omega, hl2, by omega, by rw [HL.out, HS.out]⟩
          case measure =>
            have e1 := iterPos_of HI.out
            have e2 := iterPos_of HT.out
            omega
    · have hnx : ∀ ty, (Instr.next (.pointer (some ⟨w.heap.size, 0, none⟩)) true ty).run Tryz.prog wr = _ := fun ty => Lib.run_next_end_at wr w.heap.size s pos ty hit hp
      have HS := Lib.hid (lines_end s beg pos beh hps hp)
      go_wp2_with (at_builtin; refine wpList_append_own _ rfl _ _ 41 rfl (w.heap.size + 1) 9 i0 (.string ⟨#[]⟩) 1 16 Tryz.underlying41 HI0.out HZ0.out HZ1.out HZ2.out rfl (by decide) _ _ _ rfl (hown.alloc _) ⟨wr.heap.size, 0, none⟩ 1 1 [.string (s.extract beg s.size)] rfl rfl ?c1 ?c2 ?c3 ?c4 ?c5 ?_)
      case c1 => exact cell_one_new _ _ _
      case c2 => intro u hu; simp at hu; subst hu; rfl
      case c3 => unfold maxLen; omega
      case c4 => omega
      case c5 => simp; omega
      intro v' w2 hown' hgrow _
      have hbw4 : Below w.heap.size w w2 := (hbw.alloc (by omega) _).grown hgrow (by simp; omega) (fun k hk => by have := (hown.lt k hk).1; omega)
      have HOWN := Lib.hid hown'
      clear hown' hgrow
      go_wp2_with fail
      go_ret
      refine ⟨_, xs ++ [s.extract beg s.size], rfl, ?_, ?_, by simp, hbw4, by simp; omega⟩
      · have h := HOWN.out
        have e : (xs ++ [s.extract beg s.size]).length = xs.length + 1 := by simp
        rw [e]
        refine ⟨by simp [strVals], ?_⟩
        rcases h.2 with ⟨hv, hn⟩ | ⟨g, cap, cur, hv, hb, hg, r1, r2, r3, r4⟩
        · omega
        · exact .inr ⟨g, cap, cur, hv, by omega, hg, r1, r2, r3, by rw [r4]; simp [strVals]⟩
      · rw [HL.out, HS.out]
        simp

end Go.Proofs.YtkahnlgedacppaaGreatDoor
