/-
  What runes.Block answers: the walk.
-/
import Derived.Test.YtibkncgfdhflgaaGreatDoorBlock
namespace Go.Proofs.YtibkncgfdhflgaaGreatDoor
open Go.RowKit

/-- The loop's relation in runes.Block: the first j lines behind the first one are cut. -/
def BlockRel (w : World) (g cap : Nat) (a : ByteArray) (r : List ByteArray) (L : Int) (j : Nat) (wr : World) : Prop :=
  RowIs wr g cap (a :: ((r.take j).map (cutS L) ++ r.drop j)) ∧ Below w.heap.size w wr

theorem cut_next (r : List ByteArray) (L : Int) (j : Nat) (x : ByteArray) (hx : r[j]? = some x) (a : ByteArray) :
    (a :: ((r.take j).map (cutS L) ++ r.drop j)).set (1 + j) (cutS L x) = a :: ((r.take (j + 1)).map (cutS L) ++ r.drop (j + 1)) := by
  obtain ⟨hl, e⟩ := List.getElem?_eq_some_iff.1 hx
  have hlen : ((r.take j).map (cutS L)).length = j := by rw [List.length_map, List.length_take]; omega
  rw [Nat.add_comm, List.set_cons_succ, List.set_append_right _ _ (by omega), hlen, Nat.sub_self, List.drop_eq_getElem_cons hl, List.set_cons_zero, take_next r j x hx, List.map_append]
  simp

theorem at_j (r : List ByteArray) (L : Int) (j : Nat) (x : ByteArray) (hx : r[j]? = some x) (a : ByteArray) : (a :: ((r.take j).map (cutS L) ++ r.drop j))[1 + j]? = some x := by
  obtain ⟨hl, e⟩ := List.getElem?_eq_some_iff.1 hx
  have hlen : ((r.take j).map (cutS L)).length = j := by rw [List.length_map, List.length_take]; omega
  rw [Nat.add_comm, List.getElem?_cons_succ, List.getElem?_append_right (by omega), hlen, Nat.sub_self, List.getElem?_drop]
  simpa using hx

theorem all_cut (r : List ByteArray) (L : Int) : ((r.take r.length).map (cutS L) ++ r.drop r.length) = r.map (cutS L) := by simp

theorem linesG_mem (l : List UInt8) : ∀ (cur : List UInt8) (beh : Bool), ∀ y ∈ linesG cur beh l, y.length ≤ cur.length + l.length := by
  induction l with
  | nil => intro cur beh y hy; simp [linesG] at hy; subst hy; simp
  | cons c t ih =>
    intro cur beh y hy
    unfold linesG at hy
    split at hy
    · have := ih _ _ y hy
      simp at this ⊢
      omega
    · split at hy
      · rcases List.mem_cons.1 hy with rfl | hy
        · simp
        · have := ih _ _ y hy
          simp at this ⊢
          omega
      · have := ih _ _ y hy
        simp at this ⊢
        omega
theorem linesB_mem (l y : List UInt8) (h : y ∈ linesB l) : y.length ≤ l.length := by
  have := linesG_mem l [] false y h
  simpa using this

theorem joinB_le (ls : List (List UInt8)) (m : Nat) (h : ∀ y ∈ ls, y.length ≤ m) : (joinB ls).length ≤ ls.length * (m + 1) := by
  cases ls with
  | nil => simp [joinB]
  | cons a r =>
    have ha := h a (by simp)
    have hr : ∀ q : List (List UInt8), (∀ y ∈ q, y.length ≤ m) → (q.flatMap fun y => 10 :: y).length ≤ q.length * (m + 1) := by
      intro q
      induction q with
      | nil => intro _; simp
      | cons b q ih =>
        intro hq
        have hb := hq b (by simp)
        have := ih (fun y hy => hq y (by simp [hy]))
        rw [List.flatMap_cons, List.length_append, List.length_cons, List.length_cons, Nat.succ_mul]
        omega
    have := hr r (fun y hy => h y (by simp [hy]))
    simp only [joinB, List.length_append, List.length_cons, Nat.succ_mul]
    omega

theorem dropWhile_mem (p : ByteArray → Bool) (xs : List ByteArray) : ∀ x ∈ xs.dropWhile p, x ∈ xs := by
  intro x hx
  exact (List.dropWhile_sublist p).mem hx
theorem trimS_mem (xs : List ByteArray) (x : ByteArray) (h : x ∈ trimS xs) : x ∈ xs := by
  unfold trimS trimBack trimFront at h
  rw [List.mem_reverse] at h
  have := dropWhile_mem _ _ x h
  rw [List.mem_reverse] at this
  exact dropWhile_mem _ _ x this
theorem trimS_len (xs : List ByteArray) : (trimS xs).length ≤ xs.length := by
  unfold trimS trimBack trimFront
  rw [List.length_reverse]
  have h1 := (List.dropWhile_sublist (l := (xs.dropWhile blankS).reverse) blankS).length_le
  have h2 := (List.dropWhile_sublist (l := xs) blankS).length_le
  rw [List.length_reverse] at h1
  omega

theorem cutS_size (L : Int) (x : ByteArray) : (cutS L x).size ≤ x.size := by
  have e : (cutS L x).size = (cutL L (bl x)).length := by rw [← cutS_bl]; rfl
  rw [e]
  unfold cutL
  rw [List.length_drop]
  have : (bl x).length = x.size := rfl
  omega

/-- All that the last two calls want of the lines. -/
structure Lines (s : ByteArray) (a : ByteArray) (r : List ByteArray) : Prop where
  map : (a :: r).map bl = linesB s.data.toList
  len : r.length ≤ s.size

theorem Lines.size {s a : ByteArray} {r : List ByteArray} (h : Lines s a r) : ∀ x ∈ a :: r, x.size ≤ s.size := by
  intro x hx
  have : bl x ∈ linesB s.data.toList := by rw [← h.map]; exact List.mem_map_of_mem hx
  exact linesB_mem _ _ this

theorem Lines.block {s a : ByteArray} {r : List ByteArray} (h : Lines s a r) : joinB ((trimS (a :: r.map (cutS (leastI (r.map bl))))).map bl) = blockB s.data.toList := by
  unfold blockB
  rw [← trim_map, ← h.map]
  simp only [List.map_cons, List.map_map, cutAll]
  congr 3
  refine List.map_congr_left ?_
  intro x _
  exact cutS_bl _ x

theorem Lines.join_le {s a : ByteArray} {r : List ByteArray} (h : Lines s a r) (hs : s.size ≤ 100000) (L : Int) : (joinB ((trimS (a :: r.map (cutS L))).map bl)).length ≤ 1000000000000 := by
  have h1 := joinB_le ((trimS (a :: r.map (cutS L))).map bl) 100000 (by
    intro y hy
    obtain ⟨x, hx, rfl⟩ := List.mem_map.1 hy
    have hx' := trimS_mem _ x hx
    show x.size ≤ 100000
    rcases List.mem_cons.1 hx' with rfl | hx'
    · have := h.size x (by simp)
      omega
    · obtain ⟨z, hz, rfl⟩ := List.mem_map.1 hx'
      have := h.size z (by simp [hz])
      have := cutS_size L z
      omega)
  have h2 := trimS_len (a :: r.map (cutS L))
  have h3 := h.len
  rw [List.length_map] at h1
  simp at h2
  have : (trimS (a :: r.map (cutS L))).length * (100000 + 1) ≤ 100001 * 100001 := Nat.mul_le_mul (by omega) (by omega)
  omega

set_option maxHeartbeats 2000000 in
theorem block_any (s : ByteArray) (w : World) (hs : s.size ≤ 100000) :
    Calls Tryz.prog 81 #[.string s] w (StrBelow w (blockB s.data.toList)) := by
  go_enter Tryz.func81, Tryz.ntmps81
  go_wp2_with fail
  refine (splitLines_any s w (by omega)).mono ?_
  rintro e w1 ⟨v, xs, rfl, hown, hmap, hne, b1, hlen⟩
  obtain ⟨g, cap, rfl, hBg, hcm, hrow⟩ := rowIs_of hown hne
  have hrl : xs.length ≤ cap := by obtain ⟨_, _, _, h, _⟩ := hrow; exact h
  cases xs with
  | nil => exact absurd rfl hne
  | cons a r =>
    have HLN : Lines s a r := ⟨hmap, by simpa using hlen⟩
    clear hmap hne hown
    have hl1 : (a :: r).length = r.length + 1 := rfl
    rw [hl1] at hlen hrl ⊢
    unfold maxLen at hcm
    have hzr : ∀ x ∈ r, x.size ≤ 1000000000 := fun x hx => by have := HLN.size x (by simp [hx]); omega
    have HZ := Lib.hid hzr
    clear hzr hl1
    by_cases hc1 : cap = 1
    · subst hc1
      have hr0 : r = [] := List.eq_nil_of_length_eq_zero (by omega)
      subst hr0
      go_wp2_with fail
      refine (leastIndent_any [] g 0 0 w1 ⟨hrow.lt, fun i x hx => by simp at hx⟩ (by simp) (by simp)).mono ?_
      rintro e w2 ⟨rfl, b2⟩
      have hb12 : Below w.heap.size w w2 := b1.trans (b2.mono b1.size)
      have hrow2 := hrow.below b2
      go_wp2_with fail
      have HBK := Lib.hid HLN.block
      go_loopw [16] (fun i wr => i = .int .i64 0 ∧ RowIs wr g 1 [a] ∧ Below w.heap.size w wr) (fun _ _ => 0)
      case atStart => exact ⟨rfl, hrow2, hb12⟩
      case round =>
        obtain ⟨rfl, hrw, hbw⟩ := hrel
        have hsl : SliceOf wr g (.slice (some ⟨g, 0, none⟩) (0 + 1) 1) (a :: ([] : List ByteArray).map (cutS (leastI (([] : List ByteArray).map bl)))) := ⟨0, 1, by simp, by simp, by unfold maxLen; omega, hrw.all⟩
        go_wp2_with fail
        refine (trimBlank_any _ g _ _ hsl (by simp)).mono ?_
        rintro e w4 ⟨v4, rfl, hs4, b4⟩
        go_wp2_with fail
        refine (joinLines_any _ g v4 _ hs4 (Nat.le_trans (trimS_len _) (by simp)) (HLN.join_le hs _)).mono ?_
        rintro e w5 ⟨rfl, b5⟩
        go_wp2_with fail
        go_ret
        refine strBelow_mk HBK.out ?_
        have s4 := b4.size
        have s3 := hbw.size
        exact (hbw.trans (b4.mono s3)).trans (b5.mono (by omega))
    · go_wp2_with fail
      refine (leastIndent_any r g 1 (cap - 1) w1 hrow.at (by omega) HZ.out).mono ?_
      rintro e w2 ⟨rfl, b2⟩
      have hb12 : Below w.heap.size w w2 := b1.trans (b2.mono b1.size)
      have hrow2 := hrow.below b2
      have HLR := Lib.hid (show 0 ≤ leastI (r.map bl) ∧ leastI (r.map bl) ≤ 1000000000 by
        have h := leastF_range (r.map bl) 1000000000 (fun y hy => by obtain ⟨x, hx, rfl⟩ := List.mem_map.1 hy; exact HZ.out x hx) (-1) (by omega) (by omega)
        unfold leastI
        split
        · omega
        · exact ⟨by omega, h.2⟩)
      have hlr := HLR.out
      have HBK := Lib.hid HLN.block
      generalize leastI (r.map bl) = L at HBK hlr ⊢
      clear HLR
      go_wp2_with fail
      go_loopw [16] (fun i wr => ∃ j : Nat, j ≤ r.length ∧ i = .int .i64 j ∧ BlockRel w g cap a r L j wr) (fun i _ => r.length - (intOf i).toNat)
      case atStart => exact ⟨0, Nat.zero_le _, rfl, by simpa using hrow2, hb12⟩
      case round =>
        obtain ⟨j, hj, rfl, hrw, hbw⟩ := hrel
        by_cases hlt : j < r.length
        · obtain ⟨x, hx⟩ : ∃ x, r[j]? = some x := ⟨r[j], List.getElem?_eq_getElem hlt⟩
          have hc := hrw.cell (1 + j) x (at_j r L j x hx a)
          have hxz := HZ.out x (List.mem_of_getElem? hx)
          have hix := indent_size x
          have HX := Lib.hid hx
          clear hx
          go_wp2_with fail
          refine (indentOf_any x _).mono ?_
          rintro e w3 ⟨rfl, b3⟩
          have hbw3 := hbw.trans (b3.mono hbw.size)
          have hrw3 := hrw.below b3
          have hc3 := hrw3.cell (1 + j) x (at_j r L j x HX.out a)
          have hf3 := hrw3.frozen (1 + j)
          have HSET := hrw3.set (1 + j) (cutS L x) (by simp; omega)
          obtain ⟨M, hM⟩ : ∃ M : Nat, min L (indent x.data.toList : Int) = M := ⟨(min L (indent x.data.toList : Int)).toNat, by omega⟩
          have hMx : M ≤ x.size := by omega
          have HC := Lib.hid (show cutS L x = x.extract M x.size by unfold cutS bl; rw [hM]; rfl)
          clear hc
          go_wp2_with fail
          go_roundw
          case rel =>
            refine ⟨j + 1, by omega, by go_num, ?_, ?_⟩
            · rw [← HC.out]
              rw [cut_next r L j x HX.out a] at HSET
              exact HSET
            · exact hbw3.setCell (p := ⟨g, 1 + j, none⟩) hBg _
          case measure => simp [intOf]; omega
        · have hjr : j = r.length := by omega
          subst hjr
          rw [all_cut] at hrw
          have hsl : SliceOf wr g (.slice (some ⟨g, 0, none⟩) (r.length + 1) cap) (a :: r.map (cutS L)) := ⟨0, cap, by simp, by simp; omega, by unfold maxLen; omega, hrw.all⟩
          go_wp2_with fail
          refine (trimBlank_any _ g _ _ hsl (by simp; omega)).mono ?_
          rintro e w4 ⟨v4, rfl, hs4, b4⟩
          go_wp2_with fail
          refine (joinLines_any _ g v4 _ hs4 (Nat.le_trans (trimS_len _) (by simp; omega)) (HLN.join_le hs _)).mono ?_
          rintro e w5 ⟨rfl, b5⟩
          go_wp2_with fail
          go_ret
          refine strBelow_mk HBK.out ?_
          have s4 := b4.size
          have s3 := hbw.size
          exact (hbw.trans (b4.mono s3)).trans (b5.mono (by omega))

end Go.Proofs.YtibkncgfdhflgaaGreatDoor
