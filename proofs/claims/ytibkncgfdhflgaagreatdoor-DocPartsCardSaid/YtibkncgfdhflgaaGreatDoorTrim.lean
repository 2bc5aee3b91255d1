/-
  What runes.trimBlank answers.
-/
import Derived.Test.YtibkncgfdhflgaaGreatDoorLeast
namespace Go.Proofs.YtibkncgfdhflgaaGreatDoor
open Go.RowKit

def blankS (x : ByteArray) : Bool := blankB (bl x)
def trimFront (xs : List ByteArray) : List ByteArray := xs.dropWhile blankS
def trimBack (xs : List ByteArray) : List ByteArray := (xs.reverse.dropWhile blankS).reverse
def trimS (xs : List ByteArray) : List ByteArray := trimBack (trimFront xs)

theorem front_cons (x : ByteArray) (r : List ByteArray) (h : blankS x = true) : trimFront (x :: r) = trimFront r := by
  unfold trimFront; rw [List.dropWhile_cons, if_pos h]
theorem front_stop (x : ByteArray) (r : List ByteArray) (h : blankS x = false) : trimFront (x :: r) = x :: r := by
  unfold trimFront; rw [List.dropWhile_cons, if_neg (by simp [h])]
theorem back_snoc (r : List ByteArray) (x : ByteArray) (h : blankS x = true) : trimBack (r ++ [x]) = trimBack r := by
  unfold trimBack; rw [List.reverse_append, List.reverse_singleton, List.singleton_append, List.dropWhile_cons, if_pos h]
theorem back_stop (r : List ByteArray) (x : ByteArray) (h : blankS x = false) : trimBack (r ++ [x]) = r ++ [x] := by
  unfold trimBack; rw [List.reverse_append, List.reverse_singleton, List.singleton_append, List.dropWhile_cons, if_neg (by simp [h])]; simp

theorem blank_is (s : ByteArray) (w : World) (b : Bool) (h : blankS s = b) :
    Calls Tryz.prog 149 #[.string s] w fun e w' => e = .returned (.bool b) ∧ Below w.heap.size w w' := by
  subst h
  exact isBlank_any s w

def lenV : Value → Nat
  | .slice _ n _ => n
  | _ => 0

theorem nil_or_snoc (l : List ByteArray) : l = [] ∨ ∃ r y, l = r ++ [y] := by
  by_cases h : l = []
  · exact .inl h
  · exact .inr ⟨l.dropLast, l.getLast h, (List.dropLast_concat_getLast h).symm⟩

/-- A slice value that reads as these strings, in block g. -/
def SliceOf (w : World) (g : Nat) (v : Value) (xs : List ByteArray) : Prop := ∃ off cap, v = .slice (some ⟨g, off, none⟩) xs.length cap ∧ xs.length ≤ cap ∧ cap ≤ maxLen ∧ RowAt w g off xs

def TrimPost (w : World) (g : Nat) (xs : List ByteArray) (e : Ending) (w' : World) : Prop := ∃ v, e = .returned v ∧ SliceOf w' g v (trimS xs) ∧ Below w.heap.size w w'

theorem rowAt_tail {w : World} {g off : Nat} {x : ByteArray} {r : List ByteArray} (h : RowAt w g off (x :: r)) : RowAt w g (off + 1) r := by
  refine ⟨h.1, fun i y hy => ?_⟩
  have := h.2 (i + 1) y (by simpa using hy)
  rw [show off + 1 + i = off + (i + 1) by omega]
  exact this
theorem rowAt_init {w : World} {g off : Nat} {x : ByteArray} {r : List ByteArray} (h : RowAt w g off (r ++ [x])) : RowAt w g off r := by
  refine ⟨h.1, fun i y hy => ?_⟩
  refine h.2 i y ?_
  rw [List.getElem?_append_left (List.getElem?_eq_some_iff.1 hy).1]
  exact hy

set_option maxHeartbeats 2000000 in
theorem trimBlank_any (xs : List ByteArray) (g : Nat) (v : Value) (w : World) (hv : SliceOf w g v xs) (hl : xs.length ≤ 1000000000) :
    Calls Tryz.prog 121 #[v] w (TrimPost w g xs) := by
  obtain ⟨off, cap, rfl, hcap, hcm, hr⟩ := hv
  unfold maxLen at hcm
  go_enter Tryz.func121, Tryz.ntmps121
  go_wp2_with fail
  go_loopw [0] (fun a wr => ∃ (ys : List ByteArray) (o c : Nat), a = .slice (some ⟨g, o, none⟩) ys.length c ∧ ys.length ≤ c ∧ c ≤ cap ∧ ys.length ≤ xs.length ∧ RowAt wr g o ys ∧ Below w.heap.size w wr ∧ Hid (trimFront xs = trimFront ys)) (fun a _ => lenV a)
  case atStart => exact ⟨xs, off, cap, rfl, hcap, Nat.le_refl _, Nat.le_refl _, hr, Below.refl _ _, Lib.hid rfl⟩
  case round =>
    obtain ⟨ys, o, c, rfl, hyc, hcc, hyx, hry, hbw, HT⟩ := hrel
    cases ys with
    | nil =>
      have HF := Lib.hid (show trimFront xs = [] by rw [HT.out]; rfl)
      go_wp2_with fail
      go_loopw [0] (fun a wr => ∃ (zs : List ByteArray) (c2 : Nat), a = .slice (some ⟨g, o, none⟩) zs.length c2 ∧ zs.length ≤ c2 ∧ c2 ≤ cap ∧ zs.length ≤ xs.length ∧ RowAt wr g o zs ∧ Below w.heap.size w wr ∧ Hid (trimS xs = trimBack zs)) (fun a _ => lenV a)
      case atStart => exact ⟨[], c, rfl, hyc, hcc, hyx, hry, hbw, Lib.hid (by unfold trimS; rw [HF.out])⟩
      case round =>
        obtain ⟨zs, c2, rfl, hzc, hzcc, hzx, hrz, hbz, HZ⟩ := hrel
        rcases nil_or_snoc zs with rfl | ⟨r2, y, rfl⟩
        · go_wp2_with fail
          go_ret
          exact ⟨_, rfl, ⟨o, c2, by rw [HZ.out]; rfl, by rw [HZ.out]; exact Nat.zero_le _, by unfold maxLen; omega, by rw [HZ.out]; exact hrz⟩, hbz⟩
        · have hlen2 : (r2 ++ [y]).length = r2.length + 1 := by simp
          rw [hlen2]
          rw [hlen2] at hzc hzx
          have hcl : wr.cell? ⟨g, o + r2.length, none⟩ = some (.string y) := hrz.2 r2.length y (by simp)
          clear hlen2
          cases hb2 : blankS y with
          | true =>
            have HB2 := Lib.hid hb2
            clear hb2
            go_wp2_with fail
            refine (blank_is y _ true HB2.out).mono ?_
            rintro e w2 ⟨rfl, b2⟩
            have hs2 := hbz.size
            have hbz2 := hbz.trans (b2.mono hs2)
            have hrz2 := hrz.below b2
            clear hcl
            go_wp2_with fail
            go_roundw
            case rel =>
              have hrel2 : ∃ (zs : List ByteArray) (c' : Nat), Value.slice (some ⟨g, o, none⟩) r2.length c2 = .slice (some ⟨g, o, none⟩) zs.length c' ∧ zs.length ≤ c' ∧ c' ≤ cap ∧ zs.length ≤ xs.length ∧ RowAt w2 g o zs ∧ Below w.heap.size w w2 ∧ Hid (trimS xs = trimBack zs) := ⟨r2, c2, rfl, by omega, hzcc, by omega, rowAt_init hrz2, hbz2, Lib.hid (by rw [HZ.out, back_snoc r2 y HB2.out])⟩
              first | exact hrel2 | ((repeat apply Exists.intro); exact ⟨hrel2, rfl⟩)
            case measure => simp [lenV]
          | false =>
            have HB2 := Lib.hid hb2
            clear hb2
            go_wp2_with fail
            refine (blank_is y _ false HB2.out).mono ?_
            rintro e w2 ⟨rfl, b2⟩
            have hs2 := hbz.size
            have hbz2 := hbz.trans (b2.mono hs2)
            have hrz2 := hrz.below b2
            clear hcl
            go_wp2_with fail
            go_ret
            have HE : trimS xs = r2 ++ [y] := by rw [HZ.out, back_stop r2 y HB2.out]
            exact ⟨_, rfl, ⟨o, c2, by rw [HE]; simp, by rw [HE]; simp; omega, by unfold maxLen; omega, by rw [HE]; exact hrz2⟩, hbz2⟩
    | cons x r =>
      have hc0 : wr.cell? ⟨g, o, none⟩ = some (.string x) := hry.2 0 x rfl
      have hlen : (x :: r).length = r.length + 1 := rfl
      rw [hlen]
      rw [hlen] at hyc hyx
      cases hb : blankS x with
      | true =>
        have HB := Lib.hid hb
        clear hb hlen
        go_wp2_with fail
        refine (blank_is x _ true HB.out).mono ?_
        rintro e w1 ⟨rfl, b1⟩
        have hs1 := hbw.size
        have hbw1 := hbw.trans (b1.mono hs1)
        have hry1 := hry.below b1
        clear hc0
        by_cases hc1 : c = 1
        · subst hc1
          have hr0 : r = [] := List.eq_nil_of_length_eq_zero (by omega)
          subst hr0
          go_wp2_with fail
          go_roundw
          case rel => exact ⟨[], o, 0, rfl, Nat.zero_le _, Nat.zero_le _, Nat.zero_le _, ⟨hry1.1, fun i y hy => by simp at hy⟩, hbw1, Lib.hid (by rw [HT.out, front_cons x [] HB.out])⟩
          case measure => simp [lenV]
        · go_wp2_with fail
          go_roundw
          case rel => exact ⟨r, o + 1, c - 1, rfl, by omega, by omega, by omega, rowAt_tail hry1, hbw1, Lib.hid (by rw [HT.out, front_cons x r HB.out])⟩
          case measure => simp [lenV]
      | false =>
        have HB := Lib.hid hb
        have HF := Lib.hid (show trimFront xs = x :: r by rw [HT.out, front_stop x r hb])
        clear hb hlen
        go_wp2_with fail
        refine (blank_is x _ false HB.out).mono ?_
        rintro e w1 ⟨rfl, b1⟩
        have hs1 := hbw.size
        have hbw1 := hbw.trans (b1.mono hs1)
        have hry1 := hry.below b1
        clear hc0
        go_wp2_with fail
        go_loopw [0] (fun a wr => ∃ (zs : List ByteArray) (c2 : Nat), a = .slice (some ⟨g, o, none⟩) zs.length c2 ∧ zs.length ≤ c2 ∧ c2 ≤ cap ∧ zs.length ≤ xs.length ∧ RowAt wr g o zs ∧ Below w.heap.size w wr ∧ Hid (trimS xs = trimBack zs)) (fun a _ => lenV a)
        case atStart => exact ⟨x :: r, c, rfl, hyc, hcc, hyx, hry1, hbw1, Lib.hid (by unfold trimS; rw [HF.out])⟩
        case round =>
          obtain ⟨zs, c2, rfl, hzc, hzcc, hzx, hrz, hbz, HZ⟩ := hrel
          rcases nil_or_snoc zs with rfl | ⟨r2, y, rfl⟩
          · go_wp2_with fail
            go_ret
            exact ⟨_, rfl, ⟨o, c2, by rw [HZ.out]; rfl, by rw [HZ.out]; exact Nat.zero_le _, by unfold maxLen; omega, by rw [HZ.out]; exact hrz⟩, hbz⟩
          · have hlen2 : (r2 ++ [y]).length = r2.length + 1 := by simp
            rw [hlen2]
            rw [hlen2] at hzc hzx
            have hcl : wr.cell? ⟨g, o + r2.length, none⟩ = some (.string y) := hrz.2 r2.length y (by simp)
            clear hlen2
            cases hb2 : blankS y with
            | true =>
              have HB2 := Lib.hid hb2
              clear hb2
              go_wp2_with fail
              refine (blank_is y _ true HB2.out).mono ?_
              rintro e w2 ⟨rfl, b2⟩
              have hs2 := hbz.size
              have hbz2 := hbz.trans (b2.mono hs2)
              have hrz2 := hrz.below b2
              clear hcl
              go_wp2_with fail
              go_roundw
              case rel =>
                have hrel2 : ∃ (zs : List ByteArray) (c' : Nat), Value.slice (some ⟨g, o, none⟩) r2.length c2 = .slice (some ⟨g, o, none⟩) zs.length c' ∧ zs.length ≤ c' ∧ c' ≤ cap ∧ zs.length ≤ xs.length ∧ RowAt w2 g o zs ∧ Below w.heap.size w w2 ∧ Hid (trimS xs = trimBack zs) := ⟨r2, c2, rfl, by omega, hzcc, by omega, rowAt_init hrz2, hbz2, Lib.hid (by rw [HZ.out, back_snoc r2 y HB2.out])⟩
                first | exact hrel2 | ((repeat apply Exists.intro); exact ⟨hrel2, rfl⟩)
              case measure => simp [lenV]
            | false =>
              have HB2 := Lib.hid hb2
              clear hb2
              go_wp2_with fail
              refine (blank_is y _ false HB2.out).mono ?_
              rintro e w2 ⟨rfl, b2⟩
              have hs2 := hbz.size
              have hbz2 := hbz.trans (b2.mono hs2)
              have hrz2 := hrz.below b2
              clear hcl
              go_wp2_with fail
              go_ret
              have HE : trimS xs = r2 ++ [y] := by rw [HZ.out, back_stop r2 y HB2.out]
              exact ⟨_, rfl, ⟨o, c2, by rw [HE]; simp, by rw [HE]; simp; omega, by unfold maxLen; omega, by rw [HE]; exact hrz2⟩, hbz2⟩

end Go.Proofs.YtibkncgfdhflgaaGreatDoor
