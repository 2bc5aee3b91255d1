/-
  What runes.Block answers.
-/
import Derived.Test.YtkahnlgedacppaaGreatDoorMSplit2
import Derived.Test.YtkahnlgedacppaaGreatDoorMQuote2
import Derived.Test.YtkahnlgedacppaaGreatDoorMLeast
namespace Go.Proofs.YtkahnlgedacppaaGreatDoor
open Go.RowKit

/-- A line without so many blanks. -/
def cutS (L : Int) (x : ByteArray) : ByteArray := x.extract (min L (indent (bl x))).toNat x.size
def cutL (L : Int) (x : List UInt8) : List UInt8 := x.drop (min L (indent x)).toNat
def cutAll (ls : List (List UInt8)) : List (List UInt8) := match ls with
  | [] => []
  | a :: r => a :: r.map (cutL (leastI r))
def trimLL (ls : List (List UInt8)) : List (List UInt8) := ((ls.dropWhile blankB).reverse.dropWhile blankB).reverse
def blockB (l : List UInt8) : List UInt8 := joinB (trimLL (cutAll (linesB l)))

theorem cutS_bl (L : Int) (x : ByteArray) : bl (cutS L x) = cutL L (bl x) := by
  unfold cutS cutL
  show (x.extract _ _).data.toList = _
  rw [Lib.extract_data]
  refine List.take_of_length_le ?_
  rw [List.length_drop]
  exact Nat.le_refl _

theorem dropWhile_map (xs : List ByteArray) : (xs.map bl).dropWhile blankB = (xs.dropWhile blankS).map bl := by
  induction xs with
  | nil => rfl
  | cons x r ih =>
    rw [List.map_cons, List.dropWhile_cons, List.dropWhile_cons]
    have : blankB (bl x) = blankS x := rfl
    rw [this]
    split
    · exact ih
    · rfl
theorem trim_map (xs : List ByteArray) : trimLL (xs.map bl) = (trimS xs).map bl := by
  unfold trimLL trimS trimBack trimFront
  rw [dropWhile_map, ← List.map_reverse, dropWhile_map, List.map_reverse]

/-- The row of lines in block g holds these strings in its first cells. -/
def RowIs (w : World) (g cap : Nat) (xs : List ByteArray) : Prop :=
  ∃ cur : Array Value, w.heap[g]? = some (.cells cur 9 (0, 0)) ∧ cur.size = cap ∧ xs.length ≤ cap ∧ ∀ (i : Nat) (x : ByteArray), xs[i]? = some x → cur[i]? = some (Value.string x)

theorem RowIs.cell {w : World} {g cap : Nat} {xs : List ByteArray} (h : RowIs w g cap xs) (i : Nat) (x : ByteArray) (hx : xs[i]? = some x) : w.cell? ⟨g, i, none⟩ = some (Value.string x) := by
  obtain ⟨cur, hg, hc, _, hx'⟩ := h
  rw [Lib.cell_of_heap hg]
  exact hx' i x hx
theorem RowIs.frozen {w : World} {g cap : Nat} {xs : List ByteArray} (h : RowIs w g cap xs) (i : Nat) : w.frozen? ⟨g, i, none⟩ = false := by
  obtain ⟨cur, hg, _⟩ := h
  exact Lib.frozen_of_heap hg i
theorem RowIs.lt {w : World} {g cap : Nat} {xs : List ByteArray} (h : RowIs w g cap xs) : g < w.heap.size := by
  obtain ⟨cur, hg, _⟩ := h
  exact (Array.getElem?_eq_some_iff.1 hg).1
theorem RowIs.below {w w' : World} {g cap : Nat} {xs : List ByteArray} (h : RowIs w g cap xs) (hb : Below w.heap.size w w') : RowIs w' g cap xs := by
  have hl := h.lt
  obtain ⟨cur, hg, r⟩ := h
  exact ⟨cur, by rw [hb.block g hl]; exact hg, r⟩
theorem RowIs.set {w : World} {g cap : Nat} {xs : List ByteArray} (h : RowIs w g cap xs) (i : Nat) (y : ByteArray) (hi : i < xs.length) : RowIs (w.setCell ⟨g, i, none⟩ (.string y)) g cap (xs.set i y) := by
  obtain ⟨cur, hg, hc, hl, hx⟩ := h
  refine ⟨cur.setIfInBounds i (.string y), ?_, by simp [hc], by simpa using hl, ?_⟩
  · simp [World.setCell, Array.getElem?_modify, hg]
  · intro j x hj
    rw [List.getElem?_set] at hj
    by_cases hij : i = j
    · subst hij
      rw [if_pos rfl, if_pos hi] at hj
      rw [Array.getElem?_setIfInBounds_self_of_lt (by omega)]
      cases hj
      rfl
    · rw [if_neg hij] at hj
      rw [Array.getElem?_setIfInBounds_ne hij]
      exact hx j x hj
theorem RowIs.at {w : World} {g cap : Nat} {a : ByteArray} {r : List ByteArray} (h : RowIs w g cap (a :: r)) : RowAt w g 1 r := by
  refine ⟨h.lt, fun i x hx => ?_⟩
  rw [Nat.add_comm]
  exact h.cell (i + 1) x (by simpa using hx)
theorem RowIs.all {w : World} {g cap : Nat} {xs : List ByteArray} (h : RowIs w g cap xs) : RowAt w g 0 xs := by
  refine ⟨h.lt, fun i x hx => ?_⟩
  rw [Nat.zero_add]
  exact h.cell i x hx

theorem rowIs_of {w : World} {B : Nat} {v : Value} {xs : List ByteArray} (h : w.ownsRow B 9 1 v xs.length (strVals xs)) (hne : xs ≠ []) : ∃ g cap, v = .slice (some ⟨g, 0, none⟩) xs.length cap ∧ B ≤ g ∧ cap ≤ maxLen ∧ RowIs w g cap xs := by
  rcases h.2 with ⟨_, hn⟩ | ⟨g, cap, cur, hv, hb, hg, r1, r2, r3, r4⟩
  · exact absurd (List.eq_nil_of_length_eq_zero hn) hne
  · refine ⟨g, cap, hv, hb, r2, cur, hg, by omega, r1, fun i x hx => ?_⟩
    have hi : i < xs.length := (List.getElem?_eq_some_iff.1 hx).1
    have e : (cur.toList.take (xs.length * 1))[i]? = some (Value.string x) := by
      rw [r4]
      unfold strVals
      rw [List.getElem?_map, hx]
      rfl
    rw [List.getElem?_take, if_pos (by omega)] at e
    simpa using e

end Go.Proofs.YtkahnlgedacppaaGreatDoor
/-
  What runes.Block answers: the walk.
-/
namespace Go.Proofs.YtkahnlgedacppaaGreatDoor
open Go.RowKit

/-- The loop's relation in runes.Block: the first j lines behind the first one are cut. -/
def BlockRel (w : World) (g cap : Nat) (a : ByteArray) (r : List ByteArray) (L : Int) (j : Nat) (wr : World) : Prop :=
  RowIs wr g cap (a :: ((r.take j).map (cutS L) ++ r.drop j)) ∧ Below w.heap.size w wr

theorem cut_next (r : List ByteArray) (L : Int) (j : Nat) (x : ByteArray) (hx : r[j]? = some x) (a : ByteArray) :
    (a :: ((r.take j).map (cutS L) ++ r.drop j)).set (1 + j) (cutS L x) = a :: ((r.take (j + 1)).map (cutS L) ++ r.drop (j + 1)) := by
  obtain ⟨hl, e⟩ := List.getElem?_eq_some_iff.1 hx
  have hlen : ((r.take j).map (cutS L)).length = j := by rw [List.length_map, List.length_take]; omega
  rw [Nat.add_comm, List.set_cons_succ, List.set_append_right _ _ (by omega), hlen, Nat.sub_self, List.drop_eq_getElem_cons hl, List.set_cons_zero, take_next r j x hx, List.map_append]
  simp

theorem at_j (r : List ByteArray) (L : Int) (j : Nat) (x : ByteArray) (hx : r[j]? = some x) (a : ByteArray) : (a :: ((r.take j).map (cutS L) ++ r.drop j))[1 + j]? = some x := by
  obtain ⟨hl, e⟩ := List.getElem?_eq_some_iff.1 hx
  have hlen : ((r.take j).map (cutS L)).length = j := by rw [List.length_map, List.length_take]; omega
  rw [Nat.add_comm, List.getElem?_cons_succ, List.getElem?_append_right (by omega), hlen, Nat.sub_self, List.getElem?_drop]
  simpa using hx

theorem all_cut (r : List ByteArray) (L : Int) : ((r.take r.length).map (cutS L) ++ r.drop r.length) = r.map (cutS L) := by simp

theorem linesG_mem (l : List UInt8) : ∀ (cur : List UInt8) (beh : Bool), ∀ y ∈ linesG cur beh l, y.length ≤ cur.length + l.length := by
  induction l with
  | nil => intro cur beh y hy; simp [linesG] at hy; subst hy; simp
  | cons c t ih =>
    intro cur beh y hy
    unfold linesG at hy
    split at hy
    · have := ih _ _ y hy
      simp at this ⊢
      omega
    · split at hy
      · rcases List.mem_cons.1 hy with rfl | hy
        · simp
        · have := ih _ _ y hy
          simp at this ⊢
          omega
      · have := ih _ _ y hy
        simp at this ⊢
        omega
theorem linesB_mem (l y : List UInt8) (h : y ∈ linesB l) : y.length ≤ l.length := by
  have := linesG_mem l [] false y h
  simpa using this

theorem joinB_le (ls : List (List UInt8)) (m : Nat) (h : ∀ y ∈ ls, y.length ≤ m) : (joinB ls).length ≤ ls.length * (m + 1) := by
  cases ls with
  | nil => simp [joinB]
  | cons a r =>
    have ha := h a (by simp)
    have hr : ∀ q : List (List UInt8), (∀ y ∈ q, y.length ≤ m) → (q.flatMap fun y => 10 :: y).length ≤ q.length * (m + 1) := by
      intro q
      induction q with
      | nil => intro _; simp
      | cons b q ih =>
        intro hq
        have hb := hq b (by simp)
        have := ih (fun y hy => hq y (by simp [hy]))
        rw [List.flatMap_cons, List.length_append, List.length_cons, List.length_cons, Nat.succ_mul]
        omega
    have := hr r (fun y hy => h y (by simp [hy]))
    simp only [joinB, List.length_append, List.length_cons, Nat.succ_mul]
    omega

theorem dropWhile_mem (p : ByteArray → Bool) (xs : List ByteArray) : ∀ x ∈ xs.dropWhile p, x ∈ xs := by
  intro x hx
  exact (List.dropWhile_sublist p).mem hx
theorem trimS_mem (xs : List ByteArray) (x : ByteArray) (h : x ∈ trimS xs) : x ∈ xs := by
  unfold trimS trimBack trimFront at h
  rw [List.mem_reverse] at h
  have := dropWhile_mem _ _ x h
  rw [List.mem_reverse] at this
  exact dropWhile_mem _ _ x this
theorem trimS_len (xs : List ByteArray) : (trimS xs).length ≤ xs.length := by
  unfold trimS trimBack trimFront
  rw [List.length_reverse]
  have h1 := (List.dropWhile_sublist (l := (xs.dropWhile blankS).reverse) blankS).length_le
  have h2 := (List.dropWhile_sublist (l := xs) blankS).length_le
  rw [List.length_reverse] at h1
  omega

theorem cutS_size (L : Int) (x : ByteArray) : (cutS L x).size ≤ x.size := by
  have e : (cutS L x).size = (cutL L (bl x)).length := by rw [← cutS_bl]; rfl
  rw [e]
  unfold cutL
  rw [List.length_drop]
  have : (bl x).length = x.size := rfl
  omega

/-- All that the last two calls want of the lines. -/
structure Lines (s : ByteArray) (a : ByteArray) (r : List ByteArray) : Prop where
  map : (a :: r).map bl = linesB s.data.toList
  len : r.length ≤ s.size

theorem Lines.size {s a : ByteArray} {r : List ByteArray} (h : Lines s a r) : ∀ x ∈ a :: r, x.size ≤ s.size := by
  intro x hx
  have : bl x ∈ linesB s.data.toList := by rw [← h.map]; exact List.mem_map_of_mem hx
  exact linesB_mem _ _ this

theorem Lines.block {s a : ByteArray} {r : List ByteArray} (h : Lines s a r) : joinB ((trimS (a :: r.map (cutS (leastI (r.map bl))))).map bl) = blockB s.data.toList := by
  unfold blockB
  rw [← trim_map, ← h.map]
  simp only [List.map_cons, List.map_map, cutAll]
  congr 3
  refine List.map_congr_left ?_
  intro x _
  exact cutS_bl _ x

theorem Lines.join_le {s a : ByteArray} {r : List ByteArray} (h : Lines s a r) (hs : s.size ≤ 100000) (L : Int) : (joinB ((trimS (a :: r.map (cutS L))).map bl)).length ≤ 1000000000000 := by
  have h1 := joinB_le ((trimS (a :: r.map (cutS L))).map bl) 100000 (by
    intro y hy
    obtain ⟨x, hx, rfl⟩ := List.mem_map.1 hy
    have hx' := trimS_mem _ x hx
    show x.size ≤ 100000
    rcases List.mem_cons.1 hx' with rfl | hx'
    · have := h.size x (by simp)
      omega
    · obtain ⟨z, hz, rfl⟩ := List.mem_map.1 hx'
      have := h.size z (by simp [hz])
      have := cutS_size L z
      omega)
  have h2 := trimS_len (a :: r.map (cutS L))
  have h3 := h.len
  rw [List.length_map] at h1
  simp at h2
  have : (trimS (a :: r.map (cutS L))).length * (100000 + 1) ≤ 100001 * 100001 := Nat.mul_le_mul (by omega) (by omega)
  omega

set_option maxHeartbeats 2000000 in
theorem block_any (s : ByteArray) (w : World) (hs : s.size ≤ 100000) :
    Calls Tryz.prog 228 #[.string s] w (StrBelow w (blockB s.data.toList)) := by
  go_enter Tryz.func228, Tryz.ntmps228
  go_wp2_with fail
  refine (splitLines_any s w (by omega)).mono ?_
  rintro e w1 ⟨v, xs, rfl, hown, hmap, hne, b1, hlen⟩
  obtain ⟨g, cap, rfl, hBg, hcm, hrow⟩ := rowIs_of hown hne
  have hrl : xs.length ≤ cap := by obtain ⟨_, _, _, h, _⟩ := hrow; exact h
  cases xs with
  | nil => exact absurd rfl hne
  | cons a r =>
    have HLN : Lines s a r := ⟨hmap, by simpa using hlen⟩
    clear hmap hne hown
    have hl1 : (a :: r).length = r.length + 1 := rfl
    rw [hl1] at hlen hrl ⊢
    unfold maxLen at hcm
    have hzr : ∀ x ∈ r, x.size ≤ 1000000000 := fun x hx => by have := HLN.size x (by simp [hx]); omega
    have HZ := Lib.hid hzr
    clear hzr hl1
    by_cases hc1 : cap = 1
    · subst hc1
      have hr0 : r = [] := List.eq_nil_of_length_eq_zero (by omega)
      subst hr0
      go_wp2_with fail
      refine (leastIndent_any [] g 0 0 w1 ⟨hrow.lt, fun i x hx => by simp at hx⟩ (by simp) (by simp)).mono ?_
      rintro e w2 ⟨rfl, b2⟩
      have hb12 : Below w.heap.size w w2 := b1.trans (b2.mono b1.size)
      have hrow2 := hrow.below b2
      go_wp2_with fail
      have HBK := Lib.hid HLN.block
      go_loopw [16] (fun i wr => i = .int .i64 0 ∧ RowIs wr g 1 [a] ∧ Below w.heap.size w wr) (fun _ _ => 0)
      case atStart => exact ⟨rfl, hrow2, hb12⟩
      case round =>
        obtain ⟨rfl, hrw, hbw⟩ := hrel
        have hsl : SliceOf wr g (.slice (some ⟨g, 0, none⟩) (0 + 1) 1) (a :: ([] : List ByteArray).map (cutS (leastI (([] : List ByteArray).map bl)))) := ⟨0, 1, by simp, by simp, by unfold maxLen; omega, hrw.all⟩
        go_wp2_with fail
        refine (trimBlank_any _ g _ _ hsl (by simp)).mono ?_
        rintro e w4 ⟨v4, rfl, hs4, b4⟩
        go_wp2_with fail
        refine (joinLines_any _ g v4 _ hs4 (Nat.le_trans (trimS_len _) (by simp)) (HLN.join_le hs _)).mono ?_
        rintro e w5 ⟨rfl, b5⟩
        go_wp2_with fail
        go_ret
        refine strBelow_mk HBK.out ?_
        have s4 := b4.size
        have s3 := hbw.size
        exact (hbw.trans (b4.mono s3)).trans (b5.mono (by omega))
    · go_wp2_with fail
      refine (leastIndent_any r g 1 (cap - 1) w1 hrow.at (by omega) HZ.out).mono ?_
      rintro e w2 ⟨rfl, b2⟩
      have hb12 : Below w.heap.size w w2 := b1.trans (b2.mono b1.size)
      have hrow2 := hrow.below b2
      have HLR := Lib.hid (show 0 ≤ leastI (r.map bl) ∧ leastI (r.map bl) ≤ 1000000000 by
        have h := leastF_range (r.map bl) 1000000000 (fun y hy => by obtain ⟨x, hx, rfl⟩ := List.mem_map.1 hy; exact HZ.out x hx) (-1) (by omega) (by omega)
        unfold leastI
        split
        · omega
        · exact ⟨by omega, h.2⟩)
      have hlr := HLR.out
      have HBK := Lib.hid HLN.block
      generalize leastI (r.map bl) = L at HBK hlr ⊢
      clear HLR
      go_wp2_with fail
      go_loopw [16] (fun i wr => ∃ j : Nat, j ≤ r.length ∧ i = .int .i64 j ∧ BlockRel w g cap a r L j wr) (fun i _ => r.length - (intOf i).toNat)
      case atStart => exact ⟨0, Nat.zero_le _, rfl, by simpa using hrow2, hb12⟩
      case round =>
        obtain ⟨j, hj, rfl, hrw, hbw⟩ := hrel
        by_cases hlt : j < r.length
        · obtain ⟨x, hx⟩ : ∃ x, r[j]? = some x := ⟨r[j], List.getElem?_eq_getElem hlt⟩
          have hc := hrw.cell (1 + j) x (at_j r L j x hx a)
          have hxz := HZ.out x (List.mem_of_getElem? hx)
          have hix := indent_size x
          have HX := Lib.hid hx
          clear hx
          go_wp2_with fail
          refine (indentOf_any x _).mono ?_
          rintro e w3 ⟨rfl, b3⟩
          have hbw3 := hbw.trans (b3.mono hbw.size)
          have hrw3 := hrw.below b3
          have hc3 := hrw3.cell (1 + j) x (at_j r L j x HX.out a)
          have hf3 := hrw3.frozen (1 + j)
          have HSET := hrw3.set (1 + j) (cutS L x) (by simp; omega)
          obtain ⟨M, hM⟩ : ∃ M : Nat, min L (indent x.data.toList : Int) = M := ⟨(min L (indent x.data.toList : Int)).toNat, by omega⟩
          have hMx : M ≤ x.size := by omega
          have HC := Lib.hid (show cutS L x = x.extract M x.size by unfold cutS bl; rw [hM]; rfl)
          clear hc
          go_wp2_with fail
          go_roundw
          case rel =>
            refine ⟨j + 1, by omega, by go_num, ?_, ?_⟩
            · rw [← HC.out]
              rw [cut_next r L j x HX.out a] at HSET
              exact HSET
            · exact hbw3.setCell (p := ⟨g, 1 + j, none⟩) hBg _
          case measure => simp [intOf]; omega
        · have hjr : j = r.length := by omega
          subst hjr
          rw [all_cut] at hrw
          have hsl : SliceOf wr g (.slice (some ⟨g, 0, none⟩) (r.length + 1) cap) (a :: r.map (cutS L)) := ⟨0, cap, by simp, by simp; omega, by unfold maxLen; omega, hrw.all⟩
          go_wp2_with fail
          refine (trimBlank_any _ g _ _ hsl (by simp; omega)).mono ?_
          rintro e w4 ⟨v4, rfl, hs4, b4⟩
          go_wp2_with fail
          refine (joinLines_any _ g v4 _ hs4 (Nat.le_trans (trimS_len _) (by simp; omega)) (HLN.join_le hs _)).mono ?_
          rintro e w5 ⟨rfl, b5⟩
          go_wp2_with fail
          go_ret
          refine strBelow_mk HBK.out ?_
          have s4 := b4.size
          have s3 := hbw.size
          exact (hbw.trans (b4.mono s3)).trans (b5.mono (by omega))

end Go.Proofs.YtkahnlgedacppaaGreatDoor
/-
  What lex reads, as plain functions of the bytes: words, remarks, tokens.
-/
namespace Go.Proofs.YtkahnlgedacppaaGreatDoor
open Go.RowKit

/-- What a word is: its kind, what it says, how many bytes it has. -/
abbrev Wd := Option (Nat × List UInt8 × Nat)

def lettersS : ByteArray := ⟨#[97, 98, 99, 100, 101, 102, 103, 104, 105, 106, 107, 108, 109, 110, 111, 112, 113, 114, 115, 116, 117, 118, 119, 120, 121, 122, 65, 66, 67, 68, 69, 70, 71, 72, 73, 74, 75, 76, 77, 78, 79, 80, 81, 82, 83, 84, 85, 86, 87, 88, 89, 90, 95]⟩
def signsS : ByteArray := ⟨#[33, 36, 38, 40, 41, 58, 61, 64, 91, 93, 123, 124, 125]⟩

def letU (b : UInt8) : Bool := letB b.toNat
def nmU (b : UInt8) : Bool := letU b || digU b
def nbU (b : UInt8) : Bool := nmU b || b == 46 || b == 43 || b == 45
def lxBlank (b : UInt8) : Bool := b == 32 || b == 9 || b == 10 || b == 13 || b == 44
def lxEnd (b : UInt8) : Bool := b == 10 || b == 13

def lxFence : List UInt8 := [34, 34, 34]
def lxEsc : List UInt8 := [92, 34, 34, 34]
def lxDots : List UInt8 := [46, 46, 46]

def lxName (l : List UInt8) : Wd := if nameB (l.takeWhile nmU) then some (1, l.takeWhile nmU, (l.takeWhile nmU).length) else none
def lxNum (l : List UInt8) : Wd := if numOk (l.takeWhile nbU) then some (if numWhole (l.takeWhile nbU) then 2 else 3, l.takeWhile nbU, (l.takeWhile nbU).length) else none

/-- How many bytes a text in quotes has, i of them ahead of l; 0: its line ends first. -/
def lxQs : Nat → List UInt8 → Nat
  | _, [] => 0
  | i, [b] => if b = 34 then i + 1 else 0
  | i, b :: c :: r => if b = 34 then i + 1 else if b = 92 then lxQs (i + 2) r else if lxEnd b then 0 else lxQs (i + 1) (c :: r)
def lxQn (l : List UInt8) : Nat := lxQs 1 (l.drop 1)
def lxQuoted (l : List UInt8) : Wd := match unqP (l.take (lxQn l)) with
  | none => none
  | some t => some (4, t, lxQn l)

/-- What stands ahead of the second fence, and how many bytes there are up to its end (i of them ahead of l); by fuel. -/
def lxCut : Nat → Nat → List UInt8 → List UInt8 → Option (List UInt8 × Nat)
  | 0, _, _, _ => none
  | _ + 1, _, _, [] => none
  | f + 1, i, acc, b :: r =>
    if Lib.hasPrefix (b :: r) lxFence then some (acc, i + 3)
    else if Lib.hasPrefix (b :: r) lxEsc then lxCut f (i + 4) (acc ++ lxFence) (r.drop 3)
    else lxCut f (i + 1) (acc ++ [b]) r
def rawU (b : UInt8) : Bool := !(decide (b.toNat < 32) && b != 9 && b != 10 && b != 13)
def lxRaw (l : List UInt8) : Bool := l.all rawU && Lib.validD l
def lxBlock (l : List UInt8) : Wd := match lxCut l.length 3 [] (l.drop 3) with
  | none => none
  | some (raw, n) => if lxRaw raw then some (4, blockB raw, n) else none

def lxSign (l : List UInt8) : Wd := if Lib.hasPrefix l lxDots then some (5, lxDots, 3) else match l with
  | [] => none
  | b :: _ => if signsS.data.toList.contains b then some (5, [b], 1) else none

def lxWord (l : List UInt8) : Wd := match l with
  | [] => none
  | b :: _ => if letU b then lxName l else if b == 45 || digU b then lxNum l else if Lib.hasPrefix l lxFence then lxBlock l else if b == 34 then lxQuoted l else lxSign l

def lxRem (l : List UInt8) : Nat := (l.takeWhile fun b => !lxEnd b).length

/-- A token. -/
structure Tk where
  k : Nat
  s : List UInt8
  at_ : Nat

/-- The tokens, or none, the place and the error; by fuel. -/
def lxGo : Nat → Nat → List UInt8 → List Tk → List Tk × Nat × Nat
  | 0, _, _, acc => (acc, 0, 0)
  | _ + 1, _, [], acc => (acc, 0, 0)
  | f + 1, a, b :: r, acc =>
    if lxBlank b then lxGo f (a + 1) r acc
    else if b == 35 then lxGo f (a + lxRem (b :: r)) ((b :: r).drop (lxRem (b :: r))) acc
    else match lxWord (b :: r) with
      | none => ([], a, 2)
      | some (k, s, n) => lxGo f (a + n) ((b :: r).drop n) (acc ++ [⟨k, s, a⟩])
def lexP (l : List UInt8) : List Tk × Nat × Nat := if 8000 < l.length then ([], 0, 3) else lxGo (l.length + 1) 0 l []

/-! ### the sets of bytes -/
theorem letters_has (b : UInt8) : lettersS.data.toList.contains b = letU b := by
  have hb := b.toNat_lt
  rw [Bool.eq_iff_iff]
  simp only [lettersS, letU, letB, List.contains_iff_mem, List.mem_cons, List.not_mem_nil, or_false, decide_eq_true_eq, ← UInt8.toNat_inj]
  simp
  omega
theorem nm_has (b : UInt8) : (lettersS.data.toList ++ digitsS.data.toList).contains b = nmU b := by
  unfold nmU
  rw [← letters_has, ← digits_has, Bool.eq_iff_iff]
  simp only [List.contains_iff_mem, List.mem_append, Bool.or_eq_true]
theorem nb_has (b : UInt8) : (lettersS.data.toList ++ digitsS.data.toList ++ [46, 43, 45]).contains b = nbU b := by
  unfold nbU
  rw [← nm_has, Bool.eq_iff_iff]
  simp only [List.contains_iff_mem, List.mem_append, Bool.or_eq_true, List.mem_cons, List.not_mem_nil, or_false, beq_iff_eq, or_assoc]

theorem take_while (p : UInt8 → Bool) (l : List UInt8) : l.take (l.length - (l.dropWhile p).length) = l.takeWhile p := by
  have h : l.takeWhile p ++ l.dropWhile p = l := List.takeWhile_append_dropWhile
  have hl : l.length = (l.takeWhile p).length + (l.dropWhile p).length := by rw [← List.length_append, h]
  have e : l.length - (l.dropWhile p).length = (l.takeWhile p).length := by omega
  rw [e]
  have := List.take_left (l₁ := l.takeWhile p) (l₂ := l.dropWhile p)
  rwa [h] at this

/-! ### how much is left -/
theorem lxQs_le : ∀ (n : Nat) (l : List UInt8) (i : Nat), l.length ≤ n → lxQs i l ≤ i + l.length ∧ (lxQs i l = 0 ∨ i + 1 ≤ lxQs i l)
  | _, [], _, _ => ⟨Nat.zero_le _, .inl rfl⟩
  | _, [b], i, _ => by
    unfold lxQs
    split
    · simp
    · simp
  | 0, _ :: _ :: _, _, h => by simp at h
  | n + 1, b :: c :: r, i, h => by
    unfold lxQs
    simp only [List.length_cons] at h
    have h1 := lxQs_le n r (i + 2) (by omega)
    have h2 := lxQs_le n (c :: r) (i + 1) (by simp; omega)
    simp only [List.length_cons] at h2 ⊢
    split
    · omega
    · split
      · omega
      · split
        · omega
        · omega
theorem lxCut_le : ∀ (f i : Nat) (acc l : List UInt8) (raw : List UInt8) (n : Nat), lxCut f i acc l = some (raw, n) → n ≤ i + l.length ∧ i + 3 ≤ n ∧ raw.length ≤ acc.length + l.length
  | 0, _, _, _, _, _, h => by simp [lxCut] at h
  | _ + 1, _, _, [], _, _, h => by simp [lxCut] at h
  | f + 1, i, acc, b :: r, raw, n, h => by
    unfold lxCut at h
    split at h
    · rename_i hp
      have hl := (List.isPrefixOf_iff_prefix.1 hp).length_le
      simp only [lxFence, List.length_cons, List.length_nil] at hl
      simp only [Option.some.injEq, Prod.mk.injEq] at h
      obtain ⟨rfl, rfl⟩ := h
      simp only [List.length_cons]
      omega
    · split at h
      · rename_i hp
        have hl := (List.isPrefixOf_iff_prefix.1 hp).length_le
        simp only [lxEsc, List.length_cons, List.length_nil] at hl
        have := lxCut_le f (i + 4) (acc ++ lxFence) (r.drop 3) raw n h
        simp only [List.length_drop, List.length_append, lxFence, List.length_cons, List.length_nil] at this ⊢
        omega
      · have := lxCut_le f (i + 1) (acc ++ [b]) r raw n h
        simp only [List.length_append, List.length_cons, List.length_nil] at this ⊢
        omega
theorem takeWhile_le (p : UInt8 → Bool) (l : List UInt8) : (l.takeWhile p).length ≤ l.length := (List.takeWhile_sublist _).length_le
theorem nameB_pos {l : List UInt8} (h : nameB l = true) : 0 < l.length := by
  cases l with
  | nil => simp [nameB] at h
  | cons => simp
theorem numOk_pos {l : List UInt8} (h : numOk l = true) : 0 < l.length := by
  cases l with
  | nil => exact absurd h (by decide)
  | cons => simp
theorem unqP_pos {l t : List UInt8} (h : unqP l = some t) : 0 < l.length := by
  cases l with
  | nil => exact absurd h (by rw [show unqP [] = none from by unfold unqP; rfl]; simp)
  | cons => simp

theorem lxName_le {l : List UInt8} {k : Nat} {s : List UInt8} {n : Nat} (h : lxName l = some (k, s, n)) : 0 < n ∧ n ≤ l.length := by
  unfold lxName at h
  split at h
  · rename_i hn
    simp only [Option.some.injEq, Prod.mk.injEq] at h
    obtain ⟨_, _, rfl⟩ := h
    exact ⟨nameB_pos hn, takeWhile_le _ _⟩
  · cases h
theorem lxNum_le {l : List UInt8} {k : Nat} {s : List UInt8} {n : Nat} (h : lxNum l = some (k, s, n)) : 0 < n ∧ n ≤ l.length := by
  unfold lxNum at h
  split at h
  · rename_i hn
    simp only [Option.some.injEq, Prod.mk.injEq] at h
    obtain ⟨_, _, rfl⟩ := h
    exact ⟨numOk_pos hn, takeWhile_le _ _⟩
  · cases h
theorem lxQuoted_le {l : List UInt8} {k : Nat} {s : List UInt8} {n : Nat} (h : lxQuoted l = some (k, s, n)) : 0 < n ∧ n ≤ l.length := by
  unfold lxQuoted at h
  split at h
  · cases h
  · rename_i t hn
    simp only [Option.some.injEq, Prod.mk.injEq] at h
    obtain ⟨_, _, rfl⟩ := h
    have hp := unqP_pos hn
    have hq : lxQn l ≤ _ ∧ _ := lxQs_le (l.drop 1).length (l.drop 1) 1 (Nat.le_refl _)
    rw [List.length_take] at hp
    rw [List.length_drop] at hq
    omega
theorem lxBlock_le {l : List UInt8} {k : Nat} {s : List UInt8} {n : Nat} (h : lxBlock l = some (k, s, n)) : 0 < n ∧ n ≤ l.length := by
  unfold lxBlock at h
  split at h
  · cases h
  · rename_i raw m hc
    split at h
    · simp only [Option.some.injEq, Prod.mk.injEq] at h
      obtain ⟨_, _, rfl⟩ := h
      have hq := lxCut_le _ _ _ _ _ _ hc
      rw [List.length_drop] at hq
      omega
    · cases h
theorem lxSign_le {l : List UInt8} {k : Nat} {s : List UInt8} {n : Nat} (h : lxSign l = some (k, s, n)) : 0 < n ∧ n ≤ l.length := by
  unfold lxSign at h
  split at h
  · rename_i hp
    have hl := (List.isPrefixOf_iff_prefix.1 hp).length_le
    simp only [lxDots, List.length_cons, List.length_nil] at hl
    simp only [Option.some.injEq, Prod.mk.injEq] at h
    omega
  · split at h
    · cases h
    · split at h
      · simp only [Option.some.injEq, Prod.mk.injEq] at h
        simp only [List.length_cons]
        omega
      · cases h
theorem lxWord_le {l : List UInt8} {k : Nat} {s : List UInt8} {n : Nat} (h : lxWord l = some (k, s, n)) : 0 < n ∧ n ≤ l.length := by
  unfold lxWord at h
  split at h
  · cases h
  · split at h
    · exact lxName_le h
    · split at h
      · exact lxNum_le h
      · split at h
        · exact lxBlock_le h
        · split at h
          · exact lxQuoted_le h
          · exact lxSign_le h
theorem lxRem_le (l : List UInt8) : lxRem l ≤ l.length := takeWhile_le _ _
theorem lxRem_pos {b : UInt8} {r : List UInt8} (h : (b == 35) = true) : 0 < lxRem (b :: r) := by
  have e : b = 35 := by simpa using h
  subst e
  unfold lxRem
  rw [List.takeWhile_cons, if_pos (by decide)]
  simp

/-! ### the tokens, step by step -/
theorem lxGo_nil (f a : Nat) (acc : List Tk) : lxGo f a [] acc = (acc, 0, 0) := by cases f <;> rfl
theorem lxGo_blank (f a : Nat) (b : UInt8) (r : List UInt8) (acc : List Tk) (h : lxBlank b = true) : lxGo (f + 1) a (b :: r) acc = lxGo f (a + 1) r acc := by
  rw [lxGo, if_pos h]
theorem lxGo_rem (f a : Nat) (b : UInt8) (r : List UInt8) (acc : List Tk) (h : lxBlank b = false) (h2 : (b == 35) = true) : lxGo (f + 1) a (b :: r) acc = lxGo f (a + lxRem (b :: r)) ((b :: r).drop (lxRem (b :: r))) acc := by
  rw [lxGo, if_neg (by rw [h]; decide), if_pos h2]
theorem lxGo_none (f a : Nat) (b : UInt8) (r : List UInt8) (acc : List Tk) (h : lxBlank b = false) (h2 : (b == 35) = false) (hw : lxWord (b :: r) = none) : lxGo (f + 1) a (b :: r) acc = ([], a, 2) := by
  rw [lxGo, if_neg (by rw [h]; decide), if_neg (by rw [h2]; decide), hw]
theorem lxGo_some (f a : Nat) (b : UInt8) (r : List UInt8) (acc : List Tk) (h : lxBlank b = false) (h2 : (b == 35) = false) {k : Nat} {s : List UInt8} {n : Nat} (hw : lxWord (b :: r) = some (k, s, n)) : lxGo (f + 1) a (b :: r) acc = lxGo f (a + n) ((b :: r).drop n) (acc ++ [⟨k, s, a⟩]) := by
  rw [lxGo, if_neg (by rw [h]; decide), if_neg (by rw [h2]; decide), hw]

end Go.Proofs.YtkahnlgedacppaaGreatDoor
