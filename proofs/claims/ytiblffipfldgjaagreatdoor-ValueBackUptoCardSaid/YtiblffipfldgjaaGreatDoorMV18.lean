/-
  Types of documents: what is read from tokens, a type's text, and that the text is read as the type.
-/
import Derived.Test.YtiblffipfldgjaaGreatDoorVp
import Derived.Test.YtiblffipfldgjaaGreatDoorMV3
import Derived.Test.YtiblffipfldgjaaGreatDoorMV7
import Derived.Test.YtiblffipfldgjaaGreatDoorMV10
import Derived.Test.YtiblffipfldgjaaGreatDoorRepShelf
import Derived.Shelf.Strings.SlTrimAscii
namespace Go.Proofs.YtiblffipfldgjaaGreatDoor
open Go.RowKit

/-- The one ! that may stand here. -/
def bangP (l : List Sk) : List UInt8 × List Sk := if sg (hdK l) 33 then ([33], l.tail) else ([], l)
/-- So many lists end. -/
def tyEnds : Nat → List Sk → List UInt8 → Option (List UInt8 × List Sk)
  | 0, l, ws => some (ws, l)
  | n + 1, l, ws => if sg (hdK l) 93 then tyEnds n (bangP l.tail).2 (ws ++ (93 :: (bangP l.tail).1)) else none
/-- At most so many lists begin. -/
def opensN : Nat → List Sk → Nat
  | 0, _ => 0
  | k + 1, l => if sg (hdK l) 91 then opensN k l.tail + 1 else 0
def opensL : Nat → List Sk → List Sk
  | 0, l => l
  | k + 1, l => if sg (hdK l) 91 then opensL k l.tail else l
/-- A type: its name, its wraps, the tokens behind it. -/
def typeP (l : List Sk) : Option (List UInt8 × List UInt8 × List Sk) :=
  if (hdK (opensL 12 l)).1 = 1 then (tyEnds (opensN 12 l) (bangP (opensL 12 l).tail).2 (bangP (opensL 12 l).tail).1).map fun q => ((hdK (opensL 12 l)).2, q.1, q.2) else none

theorem opens_le : ∀ (k : Nat) (l : List Sk), opensN k l ≤ k
  | 0, _ => Nat.le_refl _
  | k + 1, l => by
    unfold opensN
    split
    · have := opens_le k l.tail; omega
    · omega

/-! ### which types may be -/
def wrOk : List UInt8 → Bool
  | [] => true
  | [b] => b == 33 || b == 93
  | b :: c :: r => (b == 33 || b == 93) && !(b == 33 && c == 33) && wrOk (c :: r)
def cnt93 : List UInt8 → Nat
  | [] => 0
  | b :: r => (if b == 93 then 1 else 0) + cnt93 r
def tyOk (n ws : List UInt8) : Bool := nameB n && (wrOk ws && decide (cnt93 ws ≤ 12))
def tyText (n ws : List UInt8) : List UInt8 := List.replicate (cnt93 ws) 91 ++ (n ++ ws)
def wk (ws : List UInt8) : List Sk := ws.map fun b => (5, [b])
def tyToks (n ws : List UInt8) : List Sk := List.replicate (cnt93 ws) (5, [91]) ++ ((1, n) :: wk ws)

theorem wrOk_tail {b : UInt8} {r : List UInt8} (h : wrOk (b :: r) = true) : wrOk r = true := by
  cases r with
  | nil => rfl
  | cons c r => unfold wrOk at h; rw [Bool.and_eq_true] at h; exact h.2
theorem wrOk_head {b : UInt8} {r : List UInt8} (h : wrOk (b :: r) = true) : b = 33 ∨ b = 93 := by
  cases r with
  | nil => unfold wrOk at h; simpa using h
  | cons c r => unfold wrOk at h; simp only [Bool.and_eq_true, Bool.or_eq_true, beq_iff_eq] at h; exact h.1.1
theorem wrOk_two {r : List UInt8} (h : wrOk (33 :: r) = true) : r.head? ≠ some 33 := by
  cases r with
  | nil => simp
  | cons c r =>
    unfold wrOk at h
    simp only [Bool.and_eq_true] at h
    intro e
    simp at e
    subst e
    exact absurd h.1.2 (by decide)

/-! ### its tokens -/
theorem signs_go : ∀ (l : List UInt8), (∀ b ∈ l, signB b = true) → ∀ (X : List UInt8) (a : Nat) (acc : List Tk), ∃ ts, ts.map strip = wk l ∧ lxG a (l ++ X) acc = lxG (a + l.length) X (acc ++ ts)
  | [], _, X, a, acc => ⟨[], rfl, by rw [List.append_nil]; rfl⟩
  | b :: l, h, X, a, acc => by
    obtain ⟨ts, e, hg⟩ := signs_go l (fun c hc => h c (by simp [hc])) X (a + 1) (acc ++ [⟨5, [b], a⟩])
    refine ⟨⟨5, [b], a⟩ :: ts, by rw [List.map_cons, e]; rfl, ?_⟩
    rw [List.cons_append, sign_go (h b (by simp)), hg, List.length_cons, List.append_assoc]
    congr 1
    omega
theorem wk_rep (n : Nat) (b : UInt8) : wk (List.replicate n b) = List.replicate n (5, [b]) := by unfold wk; rw [List.map_replicate]
theorem wr_all : ∀ (l : List UInt8), wrOk l = true → ∀ b ∈ l, signB b = true ∧ nbU b = false ∧ b ≠ 34
  | [], _, _, h => by cases h
  | c :: r, h, b, hb => by
    rcases List.mem_cons.1 hb with rfl | hb
    · rcases wrOk_head h with rfl | rfl <;> decide
    · exact wr_all r (wrOk_tail h) b hb
theorem ty_lexes {n ws : List UInt8} (hn : nameB n = true) (hw : wrOk ws = true) : Lexes (tyText n ws) (tyToks n ws) := by
  intro X hX a acc
  obtain ⟨t1, e1, h1⟩ := signs_go (List.replicate (cnt93 ws) 91) (fun b hb => by rw [(List.mem_replicate.1 hb).2]; decide) (n ++ (ws ++ X)) a acc
  have hs : sepV (ws ++ X) := by
    cases ws with
    | nil => exact hX
    | cons b r => exact sep_of _ (wr_all _ hw b (by simp)).2.1 (wr_all _ hw b (by simp)).2.2
  obtain ⟨t2, e2, h2⟩ := name_lexes hn (ws ++ X) hs (a + (List.replicate (cnt93 ws) (91 : UInt8)).length) (acc ++ t1)
  obtain ⟨t3, e3, h3⟩ := signs_go ws (fun b hb => (wr_all _ hw b hb).1) X (a + (List.replicate (cnt93 ws) (91 : UInt8)).length + n.length) (acc ++ t1 ++ t2)
  refine ⟨t1 ++ (t2 ++ t3), ?_, ?_⟩
  · rw [List.map_append, List.map_append, e1, e2, e3, wk_rep]; rfl
  · unfold tyText
    rw [List.append_assoc, List.append_assoc, h1, h2, h3]
    simp only [List.length_append, List.append_assoc]
    congr 1
    omega

/-! ### the tokens are read as the type -/
theorem opens_rep : ∀ (k c : Nat) (X : List Sk), c ≤ k → sg (hdK X) 91 = false → opensN k (List.replicate c (5, [91]) ++ X) = c ∧ opensL k (List.replicate c (5, [91]) ++ X) = X
  | 0, c, X, h, _ => by
    obtain rfl : c = 0 := by omega
    exact ⟨rfl, rfl⟩
  | k + 1, 0, X, _, h0 => by
    show opensN (k + 1) X = 0 ∧ opensL (k + 1) X = X
    unfold opensN opensL
    rw [if_neg (by rw [h0]; decide), if_neg (by rw [h0]; decide)]
    exact ⟨rfl, rfl⟩
  | k + 1, c + 1, X, h, h0 => by
    obtain ⟨i1, i2⟩ := opens_rep k c X (by omega) h0
    have e : List.replicate (c + 1) ((5, [91]) : Sk) ++ X = (5, [91]) :: (List.replicate c (5, [91]) ++ X) := by rw [List.replicate_succ, List.cons_append]
    rw [e]
    have h1 : sg (hdK ((5, [91]) :: (List.replicate c ((5, [91]) : Sk) ++ X))) 91 = true := by rfl
    unfold opensN opensL
    rw [if_pos h1, if_pos h1]
    exact ⟨congrArg (· + 1) i1, i2⟩
/-- More lists begin than may be: none. -/
theorem opens_more : ∀ (k c : Nat) (X : List Sk), k < c → ∃ Y, opensL k (List.replicate c (5, [91]) ++ X) = (5, [91]) :: Y
  | 0, c, X, h => by
    obtain ⟨d, rfl⟩ : ∃ d, c = d + 1 := ⟨c - 1, by omega⟩
    exact ⟨List.replicate d (5, [91]) ++ X, by rw [List.replicate_succ, List.cons_append]; rfl⟩
  | k + 1, c, X, h => by
    obtain ⟨d, rfl⟩ : ∃ d, c = d + 1 := ⟨c - 1, by omega⟩
    obtain ⟨Y, hY⟩ := opens_more k d X (by omega)
    refine ⟨Y, ?_⟩
    have h1 : sg (hdK ((5, [91]) :: (List.replicate d ((5, [91]) : Sk) ++ X))) 91 = true := by rfl
    rw [List.replicate_succ, List.cons_append]
    unfold opensL
    rw [if_pos h1]
    exact hY
theorem type_more {n : Nat} {X : List Sk} (h : 12 < n) : typeP (List.replicate n (5, [91]) ++ X) = none := by
  obtain ⟨Y, hY⟩ := opens_more 12 n X h
  unfold typeP
  rw [hY, if_neg (show ¬ (hdK ((5, [91]) :: Y)).1 = 1 from by show ¬ (5 = 1); decide)]
theorem bang_no {l : List Sk} (h : sg (hdK l) 33 = false) : bangP l = ([], l) := by unfold bangP; rw [if_neg (by rw [h]; decide)]
theorem bang_yes (l : List Sk) : bangP ((5, [33]) :: l) = ([33], l) := by unfold bangP; rw [if_pos (by rfl)]; rfl
theorem ends_one (n : Nat) (X : List Sk) (ws : List UInt8) : tyEnds (n + 1) ((5, [93]) :: X) ws = tyEnds n (bangP X).2 ((ws ++ [93]) ++ (bangP X).1) := by
  conv => lhs; unfold tyEnds
  rw [if_pos (by rfl), List.append_assoc]
  rfl
theorem ends_wk (tl : List Sk) (htl : sg (hdK tl) 33 = false) : ∀ (k : Nat) (ws : List UInt8), ws.length ≤ k → wrOk ws = true → ∀ (p : List UInt8), tyEnds (cnt93 ws) (bangP (wk ws ++ tl)).2 (p ++ (bangP (wk ws ++ tl)).1) = some (p ++ ws, tl) := by
  intro k
  induction k with
  | zero =>
    intro ws hk _ p
    obtain rfl : ws = [] := List.eq_nil_of_length_eq_zero (by omega)
    show tyEnds 0 (bangP tl).2 (p ++ (bangP tl).1) = _
    rw [bang_no htl]
    rfl
  | succ k ih =>
    intro ws hk hw p
    cases ws with
    | nil =>
      show tyEnds 0 (bangP tl).2 (p ++ (bangP tl).1) = _
      rw [bang_no htl]
      rfl
    | cons b r =>
      rw [List.length_cons] at hk
      rcases wrOk_head hw with rfl | rfl
      · have hb : bangP (wk (33 :: r) ++ tl) = ([33], wk r ++ tl) := bang_yes _
        rw [hb]
        have hc : cnt93 (33 :: r) = cnt93 r := by show (if (33 : UInt8) == 93 then 1 else 0) + _ = _; rw [if_neg (by decide)]; omega
        rw [hc]
        cases r with
        | nil => rfl
        | cons c r =>
          have h2 := wrOk_two hw
          have h3 := wrOk_tail hw
          rcases wrOk_head h3 with rfl | rfl
          · exact absurd rfl h2
          · have hc2 : cnt93 (93 :: r) = cnt93 r + 1 := by show (if (93 : UInt8) == 93 then 1 else 0) + _ = _; rw [if_pos (by decide)]; omega
            rw [hc2]
            show tyEnds (cnt93 r + 1) ((5, [93]) :: (wk r ++ tl)) (p ++ [33]) = _
            rw [ends_one, ih r (by rw [List.length_cons] at hk; omega) (wrOk_tail h3)]
            simp
      · have hb : bangP (wk (93 :: r) ++ tl) = ([], (5, [93]) :: (wk r ++ tl)) := bang_no (by rfl)
        rw [hb]
        have hc2 : cnt93 (93 :: r) = cnt93 r + 1 := by show (if (93 : UInt8) == 93 then 1 else 0) + _ = _; rw [if_pos (by decide)]; omega
        rw [hc2]
        show tyEnds (cnt93 r + 1) ((5, [93]) :: (wk r ++ tl)) (p ++ []) = _
        rw [ends_one, ih r (by omega) (wrOk_tail hw)]
        simp
theorem type_reads {n ws : List UInt8} {tl : List Sk} (hw : wrOk ws = true) (hc : cnt93 ws ≤ 12) (htl : sg (hdK tl) 33 = false) : typeP (tyToks n ws ++ tl) = some (n, ws, tl) := by
  have e : tyToks n ws ++ tl = List.replicate (cnt93 ws) (5, [91]) ++ ((1, n) :: (wk ws ++ tl)) := by unfold tyToks; rw [List.append_assoc]; rfl
  obtain ⟨i1, i2⟩ := opens_rep 12 (cnt93 ws) ((1, n) :: (wk ws ++ tl)) hc (by rfl)
  have h1 := ends_wk tl htl ws.length ws (Nat.le_refl _) hw []
  rw [List.nil_append, List.nil_append] at h1
  rw [e]
  unfold typeP
  rw [i1, i2]
  have e1 : hdK ((1, n) :: (wk ws ++ tl)) = (1, n) := rfl
  have e2 : ((1, n) :: (wk ws ++ tl) : List Sk).tail = wk ws ++ tl := rfl
  rw [e1, e2, if_pos rfl, h1]
  rfl

end Go.Proofs.YtiblffipfldgjaaGreatDoor

/-
  value's reader: types.
-/
namespace Go.Proofs.YtiblffipfldgjaaGreatDoor
open Go.RowKit

theorem NowV.refl {R : Nat} {a : Option Addr} {cap : Nat} {ts : List Tk} {p : Nat} {w w' : World} (h : Rv w R a cap ts p) (hb : Below w.heap.size w w') : NowV R a cap ts w (ahead ts p) w' := ⟨p, rfl, h.below hb, Aw.of hb⟩

set_option maxHeartbeats 1000000 in
theorem bang_any {R : Nat} {a : Option Addr} {cap : Nat} {ts : List Tk} {p : Nat} (w : World) (h : Rv w R a cap ts p) :
    Calls Tryz.prog 64 #[.pointer (some ⟨R, 0, none⟩)] w fun e w' => e = .returned (.string ⟨(bangP (ahead ts p)).1.toArray⟩) ∧ NowV R a cap ts w (bangP (ahead ts p)).2 w' := by
  by_cases hs : sg (hdK (ahead ts p)) 33 = true
  · have HT := takeSign_yes 33 w h hs
    have HU := Lib.hid (show bangP (ahead ts p) = ([33], (ahead ts p).tail) by unfold bangP; rw [if_pos hs])
    clear hs
    go_enter Tryz.func64, Tryz.ntmps64
    go_wp2_with fail
    refine HT.mono ?_
    rintro e w1 ⟨rfl, hn⟩
    have HN := Lib.hid hn
    clear hn HT
    go_wp2_with fail
    go_ret
    rw [HU.out]
    exact ⟨rfl, HN.out⟩
  · have hs : sg (hdK (ahead ts p)) 33 = false := by simpa using hs
    have HT := takeSign_no 33 w h hs
    have HU := Lib.hid (bang_no hs)
    clear hs
    go_enter Tryz.func64, Tryz.ntmps64
    go_wp2_with fail
    refine HT.mono ?_
    rintro e w1 ⟨rfl, hb⟩
    have HN := Lib.hid (NowV.refl h hb)
    clear hb HT
    go_wp2_with fail
    go_ret
    rw [HU.out]
    exact ⟨rfl, HN.out⟩

/-- The box of a type, as it is laid. -/
structure Bt (W : World) (B : Nat) : Prop where
  r0 : W.cell? ⟨B, 0, none⟩ = some (.string ⟨#[]⟩)
  r1 : W.cell? ⟨B, 1, none⟩ = some (.string ⟨#[]⟩)
  rf : ∀ j, W.frozen? ⟨B, j, none⟩ = false
theorem Bt.new (w : World) : Bt (w.alloc (.cells #[.string ⟨#[]⟩, .string ⟨#[]⟩] 27)) w.heap.size := by
  have hb : (w.alloc (.cells #[.string ⟨#[]⟩, .string ⟨#[]⟩] 27)).heap[w.heap.size]? = some (.cells #[.string ⟨#[]⟩, .string ⟨#[]⟩] 27 (0, 0)) := heap_alloc_new _ _
  exact ⟨Lib.cell_of_heap hb 0, Lib.cell_of_heap hb 1, fun j => by go_simp⟩
theorem Bt.keep {W W' : World} {B : Nat} (h : Bt W B) (hb : W'.heap[B]? = W.heap[B]?) : Bt W' B := by
  have c : ∀ o, W'.cell? ⟨B, o, none⟩ = W.cell? ⟨B, o, none⟩ := fun o => World.cell?_of_block (a := ⟨B, o, none⟩) hb
  exact ⟨(c 0).trans h.r0, (c 1).trans h.r1, fun j => (World.frozen?_of_block (a := ⟨B, j, none⟩) hb).trans (h.rf j)⟩
theorem heap_two (W : World) (B : Nat) (c0 c1 : Value) (k : Nat) (h : k ≠ B) : ((W.setCell ⟨B, 0, none⟩ c0).setCell ⟨B, 1, none⟩ c1).heap[k]? = W.heap[k]? := by
  rw [Below.heap_setCell _ _ _ _ h, Below.heap_setCell _ _ _ _ h]
theorem size_two (W : World) (B : Nat) (c0 c1 : Value) : ((W.setCell ⟨B, 0, none⟩ c0).setCell ⟨B, 1, none⟩ c1).heap.size = W.heap.size := by simp [World.setCell]
theorem Bt.two {W : World} {B : Nat} (h : Bt W B) (c0 c1 : Value) : ((W.setCell ⟨B, 0, none⟩ c0).setCell ⟨B, 1, none⟩ c1).cell? ⟨B, 0, none⟩ = some c0 ∧ ((W.setCell ⟨B, 0, none⟩ c0).setCell ⟨B, 1, none⟩ c1).cell? ⟨B, 1, none⟩ = some c1 := by
  obtain ⟨r0, r1, _⟩ := h
  refine ⟨?_, ?_⟩ <;> simp [go_sem, r0, r1]
theorem Rv.two {w : World} {R : Nat} {a : Option Addr} {cap : Nat} {ts : List Tk} {p : Nat} (h : Rv w R a cap ts p) {B : Nat} (hR : R ≠ B) (hg : ∀ g, a = some ⟨g, 0, none⟩ → 0 < ts.length → g ≠ B) (c0 c1 : Value) : Rv ((w.setCell ⟨B, 0, none⟩ c0).setCell ⟨B, 1, none⟩ c1) R a cap ts p :=
  h.keepT (heap_two _ _ _ _ R hR) (fun g e h0 => heap_two _ _ _ _ g (hg g e h0))

/-- What typeOf answers. -/
def TyIs (R : Nat) (a : Option Addr) (cap : Nat) (ts : List Tk) (w : World) (o : Option (List UInt8 × List UInt8 × List Sk)) (e : Ending) (w' : World) : Prop :=
  match o with
  | none => e = .returned (.tuple #[.agg #[.string ⟨#[]⟩, .string ⟨#[]⟩], .bool false]) ∧ Aw R w.heap.size w w'
  | some (n, ws, r) => e = .returned (.tuple #[.agg #[.string ⟨n.toArray⟩, .string ⟨ws.toArray⟩], .bool true]) ∧ NowV R a cap ts w r w'

/-- The first loop: so many lists have begun. -/
def OpRel (R : Nat) (a : Option Addr) (cap : Nat) (ts : List Tk) (w0 : World) (L : List Sk) (v4 : Value) (wr : World) : Prop :=
  ∃ j q : Nat, j ≤ 12 ∧ v4 = .int .i64 j ∧ Rv wr R a cap ts q ∧ Aw R w0.heap.size w0 wr ∧ Hid (opensN 12 L = j + opensN (12 - j) (ahead ts q)) ∧ Hid (opensL 12 L = opensL (12 - j) (ahead ts q))
/-- The second loop: so many have ended. -/
def EndRel (R : Nat) (a : Option Addr) (cap : Nat) (ts : List Tk) (w0 : World) (m : Nat) (RES : Option (List UInt8 × List Sk)) (v7 v27 : Value) (wr : World) : Prop :=
  ∃ (i q : Nat) (S : ByteArray), i ≤ m ∧ v27 = .int .i64 i ∧ v7 = .string S ∧ S.size ≤ 2 * i + 1 ∧ Rv wr R a cap ts q ∧ Aw R w0.heap.size w0 wr ∧ Hid (tyEnds (m - i) (ahead ts q) (vbl S) = RES)

theorem str_of (l : List UInt8) : vbl (⟨l.toArray⟩ : ByteArray) = l := rfl
theorem of_vbl {S : ByteArray} {l : List UInt8} (h : vbl S = l) : S = ⟨l.toArray⟩ := by subst h; rfl
theorem bang_len (l : List Sk) : (bangP l).1.length ≤ 1 := by
  unfold bangP
  split
  · exact Nat.le_refl 1
  · exact Nat.zero_le 1
theorem vbl_append' (a b : ByteArray) : vbl (a ++ b) = vbl a ++ vbl b := by
  unfold vbl
  rw [ByteArray.data_append, Array.toList_append]

set_option maxHeartbeats 8000000 in
set_option maxRecDepth 100000 in
theorem typeOf_any {R : Nat} {a : Option Addr} {cap : Nat} {ts : List Tk} {p : Nat} (w : World) (h : Rv w R a cap ts p) :
    Calls Tryz.prog 29 #[.pointer (some ⟨R, 0, none⟩)] w (TyIs R a cap ts w (typeP (ahead ts p))) := by
  have HH := Lib.hid h
  have hRlt := h.lt
  have hA := h.alloc (.cells #[.string ⟨#[]⟩, .string ⟨#[]⟩] 27)
  have HX0 := Lib.hid (Bt.new w)
  have hb0 : Below w.heap.size w (w.alloc (.cells #[.string ⟨#[]⟩, .string ⟨#[]⟩] 27)) := (Below.refl _ w).alloc (Nat.le_refl _) _
  have hz0 : (w.alloc (.cells #[.string ⟨#[]⟩, .string ⟨#[]⟩] 27)).heap.size = w.heap.size + 1 := by simp
  have HA0 := Lib.hid hA
  have HB0 := Lib.hid hb0
  have HZ0 := Lib.hid hz0
  -- what the first world's box gives later ones
  have HBX : ∀ W, Aw R (w.alloc (.cells #[.string ⟨#[]⟩, .string ⟨#[]⟩] 27)).heap.size (w.alloc (.cells #[.string ⟨#[]⟩, .string ⟨#[]⟩] 27)) W → Bt W w.heap.size ∧ Aw R w.heap.size w W ∧ w.heap.size + 1 ≤ W.heap.size := fun W hW => ⟨HX0.out.keep (hW.block _ (by rw [HZ0.out]; omega) (by omega)), (Aw.of HB0.out).trans (hW.mono (by rw [HZ0.out]; omega)), by have := hW.size; rw [HZ0.out] at this; exact this⟩
  have HBX := Lib.hid HBX
  have HTP := Lib.hid (show typeP (ahead ts p) = if (hdK (opensL 12 (ahead ts p))).1 = 1 then (tyEnds (opensN 12 (ahead ts p)) (bangP (opensL 12 (ahead ts p)).tail).2 (bangP (opensL 12 (ahead ts p)).tail).1).map fun q => ((hdK (opensL 12 (ahead ts p))).2, q.1, q.2) else none from rfl)
  clear h hA hb0 hz0
  generalize hL : ahead ts p = L at *
  have HL := Lib.hid hL
  clear hL
  generalize typeP L = RES at *
  go_enter Tryz.func29, Tryz.ntmps29
  go_wp2_with fail
  go_loopw [4] (fun v4 wr => OpRel R a cap ts (w.alloc (.cells #[.string ⟨#[]⟩, .string ⟨#[]⟩] 27)) L v4 wr) (fun v4 _ => 12 - (intOf v4).toNat)
  case atStart => exact ⟨0, p, by omega, rfl, HA0.out, Aw.refl _ _ _, Lib.hid (by rw [HL.out, Nat.zero_add]), Lib.hid (by rw [HL.out])⟩
  case round =>
    obtain ⟨j, q, hj, rfl, hr, haw, HN, HM⟩ := hrel
    have HR := Lib.hid hr
    by_cases hgo : j < 12 ∧ sg (hdK (ahead ts q)) 91 = true
    · have hd : decide ((j : Int) < 12) = true := decide_eq_true (by omega)
      have HT := takeSign_yes 91 wr hr hgo.2
      have HN2 := Lib.hid (show opensN 12 L = (j + 1) + opensN (12 - (j + 1)) (ahead ts q).tail by
        rw [HN.out, show 12 - j = (12 - (j + 1)) + 1 by omega]
        show j + (if sg (hdK (ahead ts q)) 91 = true then _ else 0) = _
        rw [if_pos hgo.2]; omega)
      have HM2 := Lib.hid (show opensL 12 L = opensL (12 - (j + 1)) (ahead ts q).tail by
        rw [HM.out, show 12 - j = (12 - (j + 1)) + 1 by omega]
        show (if sg (hdK (ahead ts q)) 91 = true then _ else _) = _
        rw [if_pos hgo.2])
      have hj12 := hgo.1
      clear hgo hr HN HM
      go_wp2_with fail
      refine HT.mono ?_
      rintro e w1 ⟨rfl, q1, hl1, hr1, ha1⟩
      have HL1 := Lib.hid hl1
      have HAW := Lib.hid (haw.trans (ha1.mono haw.size))
      clear hl1 ha1 haw HT
      go_wp2_with fail
      go_roundw
      case rel => exact ⟨j + 1, q1, by omega, by go_num, hr1, HAW.out, Lib.hid (by rw [HL1.out]; exact HN2.out), Lib.hid (by rw [HL1.out]; exact HM2.out)⟩
      case measure => simp [intOf]; omega
    · -- no more lists begin: the rest, from wr or from the world behind the last look
      have HN2 := Lib.hid (show opensN 12 L = j ∧ opensL 12 L = ahead ts q by
        rw [HN.out, HM.out]
        by_cases h12 : j = 12
        · subst h12; exact ⟨rfl, rfl⟩
        · have hsf : sg (hdK (ahead ts q)) 91 = false := by
            cases hx : sg (hdK (ahead ts q)) 91 with
            | false => rfl
            | true => exact absurd ⟨by omega, hx⟩ hgo
          rw [show 12 - j = (12 - (j + 1)) + 1 by omega]
          refine ⟨?_, ?_⟩
          · show j + (if sg (hdK (ahead ts q)) 91 = true then _ else 0) = _
            rw [if_neg (by rw [hsf]; decide)]; omega
          · show (if sg (hdK (ahead ts q)) 91 = true then _ else _) = _
            rw [if_neg (by rw [hsf]; decide)])
      have HRES := Lib.hid (show RES = if (hdK (ahead ts q)).1 = 1 then (tyEnds j (bangP (ahead ts q).tail).2 (bangP (ahead ts q).tail).1).map fun z => ((hdK (ahead ts q)).2, z.1, z.2) else none by rw [HTP.out, HN2.out.1, HN2.out.2])
      have HREST : ∀ W, Rv W R a cap ts q → Aw R (w.alloc (.cells #[.string ⟨#[]⟩, .string ⟨#[]⟩] 27)).heap.size (w.alloc (.cells #[.string ⟨#[]⟩, .string ⟨#[]⟩] 27)) W → True := fun _ _ _ => trivial
      clear HREST HTP
      by_cases h12 : j < 12
      · have hd : decide ((j : Int) < 12) = true := decide_eq_true (by omega)
        have hsf : sg (hdK (ahead ts q)) 91 = false := by
          cases hx : sg (hdK (ahead ts q)) 91 with
          | false => rfl
          | true => exact absurd ⟨by omega, hx⟩ hgo
        have HT := takeSign_no 91 wr hr hsf
        clear hgo hsf hr HN HM
        go_wp2_with fail
        refine HT.mono ?_
        rintro e wk ⟨rfl, hbk⟩
        have hrk := HR.out.below hbk
        have hak := haw.trans (Aw.of (hbk.mono haw.size))
        clear HT hbk HR haw
        by_cases h1 : (hdK (ahead ts q)).1 = 1
        · have HT1 := takeName_yes wk hrk h1
          have HRES1 := Lib.hid (show RES = (tyEnds j (bangP (ahead ts q).tail).2 (bangP (ahead ts q).tail).1).map fun z => ((hdK (ahead ts q)).2, z.1, z.2) by rw [HRES.out, if_pos h1])
          clear h1 HRES hrk
          go_wp2_with fail
          refine HT1.mono ?_
          rintro e w2 ⟨rfl, hzn, q2, hl2, hr2, ha2⟩
          have hb2 := bang_any w2 hr2
          rw [hl2] at hb2
          have ha02 := hak.trans (ha2.mono hak.size)
          have hbl := bang_len (ahead ts q).tail
          generalize (hdK (ahead ts q)).2 = nm at *
          generalize bangP (ahead ts q).tail = BP at *
          obtain ⟨bw, bl⟩ := BP
          have HA02 := Lib.hid ha02
          clear HT1 hl2 hr2 ha2 ha02 hak
          go_wp2_with fail
          refine hb2.mono ?_
          rintro e w3 ⟨rfl, q3, hl3, hr3, ha3⟩
          have HA03 := Lib.hid (HA02.out.trans (ha3.mono HA02.out.size))
          have HR3 := Lib.hid hr3
          have HL3 := Lib.hid hl3
          clear hb2 hl3 hr3 ha3
          go_wp2_with fail
          go_loopw [7, 27] (fun v7 v27 wr2 => EndRel R a cap ts (w.alloc (.cells #[.string ⟨#[]⟩, .string ⟨#[]⟩] 27)) j (tyEnds j bl bw) v7 v27 wr2) (fun _ v27 _ => j - (intOf v27).toNat)
          case atStart => exact ⟨0, q3, _, by omega, rfl, rfl, by show bw.length ≤ 2 * 0 + 1; have h : bw.length ≤ 1 := hbl; omega, HR3.out, HA03.out, Lib.hid (by rw [HL3.out]; rfl)⟩
          case round =>
            obtain ⟨i, q4, S, hi, rfl, rfl, hS, hr4, ha4, HE⟩ := hrel
            by_cases hij : i < j
            · have hdi : decide ((i : Int) < (j : Int)) = true := decide_eq_true (by omega)
              by_cases h93 : sg (hdK (ahead ts q4)) 93 = true
              · have HT4 := takeSign_yes 93 _ hr4 h93
                have HE2 := Lib.hid (show tyEnds j bl bw = tyEnds (j - (i + 1)) (bangP (ahead ts q4).tail).2 (vbl S ++ (93 :: (bangP (ahead ts q4).tail).1)) by
                  rw [← HE.out, show j - i = (j - (i + 1)) + 1 by omega, tyEnds, if_pos h93])
                clear h93 hr4 HE
                go_wp2_with fail
                refine HT4.mono ?_
                rintro e w5 ⟨rfl, q5, hl5, hr5, ha5⟩
                have hb5 := bang_any w5 hr5
                rw [hl5] at hb5
                have hbl5 := bang_len (ahead ts q4).tail
                generalize bangP (ahead ts q4).tail = BQ at *
                obtain ⟨bw5, bl5⟩ := BQ
                have HA05 := Lib.hid (ha4.trans (ha5.mono ha4.size))
                have hz5 : (⟨bw5.toArray⟩ : ByteArray).size ≤ 1 := hbl5
                have hz6 : (⟨#[93]⟩ ++ ⟨bw5.toArray⟩ : ByteArray).size ≤ 2 := by rw [ByteArray.size_append]; show 1 + _ ≤ 2; omega
                clear HT4 hl5 hr5 ha5 ha4
                go_wp2_with fail
                refine hb5.mono ?_
                rintro e w6 ⟨rfl, q6, hl6, hr6, ha6⟩
                have HA06 := Lib.hid (HA05.out.trans (ha6.mono HA05.out.size))
                have HR6 := Lib.hid hr6
                have HL6 := Lib.hid hl6
                clear hb5 hl6 hr6 ha6
                go_wp2_with fail
                go_roundw
                case rel =>
                  refine ⟨i + 1, q6, _, by omega, by go_num, rfl, ?_, HR6.out, HA06.out, Lib.hid ?_⟩
                  · rw [ByteArray.size_append]; omega
                  · rw [HL6.out, vbl_append', vbl_append']; exact HE2.out.symm
                case measure => simp [intOf]; omega
              · have h93 : sg (hdK (ahead ts q4)) 93 = false := by simpa using h93
                have HT4 := takeSign_no 93 _ hr4 h93
                have HE2 := Lib.hid (show RES = none by
                  rw [HRES1.out, ← HE.out, show j - i = (j - (i + 1)) + 1 by omega, tyEnds, if_neg (by rw [h93]; decide)]; rfl)
                clear h93 hr4 HE
                go_wp2_with fail
                refine HT4.mono ?_
                rintro e w5 ⟨rfl, hb5⟩
                obtain ⟨hx5, ha5, hz5⟩ := HBX.out _ (ha4.trans (Aw.of (hb5.mono ha4.size)))
                have HA5 := Lib.hid ha5
                have HF := Lib.hid (hx5.two (.string ⟨#[]⟩) (.string ⟨#[]⟩))
                obtain ⟨r0, r1, rf⟩ := hx5
                clear HT4 hb5 ha4 ha5
                go_wp2_with fail
                obtain ⟨k0, k1⟩ := HF.out
                refine bodyPost_ret (v := .tuple #[.agg #[.string ⟨#[]⟩, .string ⟨#[]⟩], .bool false]) (by simp [results, Tryz.results29, go_sem, k0, k1]) rfl ?_
                rw [HE2.out]
                exact ⟨rfl, ((HA5.out.setNew (q := ⟨w.heap.size, 0, none⟩) (Nat.le_refl _) _).setNew (q := ⟨w.heap.size, 1, none⟩) (Nat.le_refl _) _)⟩
            · have hdi : decide ((i : Int) < (j : Int)) = false := decide_eq_false (by omega)
              have HE2 := Lib.hid (show RES = some (nm, vbl S, ahead ts q4) by
                rw [HRES1.out, ← HE.out, show j - i = 0 by omega]; rfl)
              obtain ⟨hx5, ha5, hz5⟩ := HBX.out _ ha4
              have HA5 := Lib.hid ha5
              have HR4 := Lib.hid hr4
              have HF := Lib.hid (hx5.two (.string ⟨nm.toArray⟩) (.string S))
              obtain ⟨r0, r1, rf⟩ := hx5
              clear HE hr4 ha4 ha5
              go_wp2_with fail
              obtain ⟨k0, k1⟩ := HF.out
              refine bodyPost_ret (v := .tuple #[.agg #[.string ⟨nm.toArray⟩, .string S], .bool true]) (by simp [results, Tryz.results29, go_sem, k0, k1]) rfl ?_
              rw [HE2.out]
              refine ⟨by rw [← of_vbl (S := S) rfl], q4, rfl, HR4.out.two (by omega) (fun g e h0 => by have := HH.out.tokLt g e h0; omega) _ _, ((HA5.out.setNew (q := ⟨w.heap.size, 0, none⟩) (Nat.le_refl _) _).setNew (q := ⟨w.heap.size, 1, none⟩) (Nat.le_refl _) _)⟩
        · have HT1 := takeName_no wk hrk h1
          have HE2 := Lib.hid (show RES = none by rw [HRES.out, if_neg h1])
          clear h1 HRES hrk
          go_wp2_with fail
          refine HT1.mono ?_
          rintro e w5 ⟨rfl, hb5⟩
          obtain ⟨hx5, ha5, hz5⟩ := HBX.out _ (hak.trans (Aw.of (hb5.mono hak.size)))
          have HA5 := Lib.hid ha5
          have HF := Lib.hid (hx5.two (.string ⟨#[]⟩) (.string ⟨#[]⟩))
          obtain ⟨r0, r1, rf⟩ := hx5
          clear HT1 hb5 hak ha5
          go_wp2_with fail
          obtain ⟨k0, k1⟩ := HF.out
          refine bodyPost_ret (v := .tuple #[.agg #[.string ⟨#[]⟩, .string ⟨#[]⟩], .bool false]) (by simp [results, Tryz.results29, go_sem, k0, k1]) rfl ?_
          rw [HE2.out]
          exact ⟨rfl, ((HA5.out.setNew (q := ⟨w.heap.size, 0, none⟩) (Nat.le_refl _) _).setNew (q := ⟨w.heap.size, 1, none⟩) (Nat.le_refl _) _)⟩
      · have hd : decide ((j : Int) < 12) = false := decide_eq_false (by omega)
        have hak := haw
        have hrk := hr
        clear hgo hr HN HM HR haw
        by_cases h1 : (hdK (ahead ts q)).1 = 1
        · have HT1 := takeName_yes wr hrk h1
          have HRES1 := Lib.hid (show RES = (tyEnds j (bangP (ahead ts q).tail).2 (bangP (ahead ts q).tail).1).map fun z => ((hdK (ahead ts q)).2, z.1, z.2) by rw [HRES.out, if_pos h1])
          clear h1 HRES hrk
          go_wp2_with fail
          refine HT1.mono ?_
          rintro e w2 ⟨rfl, hzn, q2, hl2, hr2, ha2⟩
          have hb2 := bang_any w2 hr2
          rw [hl2] at hb2
          have ha02 := hak.trans (ha2.mono hak.size)
          have hbl := bang_len (ahead ts q).tail
          generalize (hdK (ahead ts q)).2 = nm at *
          generalize bangP (ahead ts q).tail = BP at *
          obtain ⟨bw, bl⟩ := BP
          have HA02 := Lib.hid ha02
          clear HT1 hl2 hr2 ha2 ha02 hak
          go_wp2_with fail
          refine hb2.mono ?_
          rintro e w3 ⟨rfl, q3, hl3, hr3, ha3⟩
          have HA03 := Lib.hid (HA02.out.trans (ha3.mono HA02.out.size))
          have HR3 := Lib.hid hr3
          have HL3 := Lib.hid hl3
          clear hb2 hl3 hr3 ha3
          go_wp2_with fail
          go_loopw [7, 27] (fun v7 v27 wr2 => EndRel R a cap ts (w.alloc (.cells #[.string ⟨#[]⟩, .string ⟨#[]⟩] 27)) j (tyEnds j bl bw) v7 v27 wr2) (fun _ v27 _ => j - (intOf v27).toNat)
          case atStart => exact ⟨0, q3, _, by omega, rfl, rfl, by show bw.length ≤ 2 * 0 + 1; have h : bw.length ≤ 1 := hbl; omega, HR3.out, HA03.out, Lib.hid (by rw [HL3.out]; rfl)⟩
          case round =>
            obtain ⟨i, q4, S, hi, rfl, rfl, hS, hr4, ha4, HE⟩ := hrel
            by_cases hij : i < j
            · have hdi : decide ((i : Int) < (j : Int)) = true := decide_eq_true (by omega)
              by_cases h93 : sg (hdK (ahead ts q4)) 93 = true
              · have HT4 := takeSign_yes 93 _ hr4 h93
                have HE2 := Lib.hid (show tyEnds j bl bw = tyEnds (j - (i + 1)) (bangP (ahead ts q4).tail).2 (vbl S ++ (93 :: (bangP (ahead ts q4).tail).1)) by
                  rw [← HE.out, show j - i = (j - (i + 1)) + 1 by omega, tyEnds, if_pos h93])
                clear h93 hr4 HE
                go_wp2_with fail
                refine HT4.mono ?_
                rintro e w5 ⟨rfl, q5, hl5, hr5, ha5⟩
                have hb5 := bang_any w5 hr5
                rw [hl5] at hb5
                have hbl5 := bang_len (ahead ts q4).tail
                generalize bangP (ahead ts q4).tail = BQ at *
                obtain ⟨bw5, bl5⟩ := BQ
                have HA05 := Lib.hid (ha4.trans (ha5.mono ha4.size))
                have hz5 : (⟨bw5.toArray⟩ : ByteArray).size ≤ 1 := hbl5
                have hz6 : (⟨#[93]⟩ ++ ⟨bw5.toArray⟩ : ByteArray).size ≤ 2 := by rw [ByteArray.size_append]; show 1 + _ ≤ 2; omega
                clear HT4 hl5 hr5 ha5 ha4
                go_wp2_with fail
                refine hb5.mono ?_
                rintro e w6 ⟨rfl, q6, hl6, hr6, ha6⟩
                have HA06 := Lib.hid (HA05.out.trans (ha6.mono HA05.out.size))
                have HR6 := Lib.hid hr6
                have HL6 := Lib.hid hl6
                clear hb5 hl6 hr6 ha6
                go_wp2_with fail
                go_roundw
                case rel =>
                  refine ⟨i + 1, q6, _, by omega, by go_num, rfl, ?_, HR6.out, HA06.out, Lib.hid ?_⟩
                  · rw [ByteArray.size_append]; omega
                  · rw [HL6.out, vbl_append', vbl_append']; exact HE2.out.symm
                case measure => simp [intOf]; omega
              · have h93 : sg (hdK (ahead ts q4)) 93 = false := by simpa using h93
                have HT4 := takeSign_no 93 _ hr4 h93
                have HE2 := Lib.hid (show RES = none by
                  rw [HRES1.out, ← HE.out, show j - i = (j - (i + 1)) + 1 by omega, tyEnds, if_neg (by rw [h93]; decide)]; rfl)
                clear h93 hr4 HE
                go_wp2_with fail
                refine HT4.mono ?_
                rintro e w5 ⟨rfl, hb5⟩
                obtain ⟨hx5, ha5, hz5⟩ := HBX.out _ (ha4.trans (Aw.of (hb5.mono ha4.size)))
                have HA5 := Lib.hid ha5
                have HF := Lib.hid (hx5.two (.string ⟨#[]⟩) (.string ⟨#[]⟩))
                obtain ⟨r0, r1, rf⟩ := hx5
                clear HT4 hb5 ha4 ha5
                go_wp2_with fail
                obtain ⟨k0, k1⟩ := HF.out
                refine bodyPost_ret (v := .tuple #[.agg #[.string ⟨#[]⟩, .string ⟨#[]⟩], .bool false]) (by simp [results, Tryz.results29, go_sem, k0, k1]) rfl ?_
                rw [HE2.out]
                exact ⟨rfl, ((HA5.out.setNew (q := ⟨w.heap.size, 0, none⟩) (Nat.le_refl _) _).setNew (q := ⟨w.heap.size, 1, none⟩) (Nat.le_refl _) _)⟩
            · have hdi : decide ((i : Int) < (j : Int)) = false := decide_eq_false (by omega)
              have HE2 := Lib.hid (show RES = some (nm, vbl S, ahead ts q4) by
                rw [HRES1.out, ← HE.out, show j - i = 0 by omega]; rfl)
              obtain ⟨hx5, ha5, hz5⟩ := HBX.out _ ha4
              have HA5 := Lib.hid ha5
              have HR4 := Lib.hid hr4
              have HF := Lib.hid (hx5.two (.string ⟨nm.toArray⟩) (.string S))
              obtain ⟨r0, r1, rf⟩ := hx5
              clear HE hr4 ha4 ha5
              go_wp2_with fail
              obtain ⟨k0, k1⟩ := HF.out
              refine bodyPost_ret (v := .tuple #[.agg #[.string ⟨nm.toArray⟩, .string S], .bool true]) (by simp [results, Tryz.results29, go_sem, k0, k1]) rfl ?_
              rw [HE2.out]
              refine ⟨by rw [← of_vbl (S := S) rfl], q4, rfl, HR4.out.two (by omega) (fun g e h0 => by have := HH.out.tokLt g e h0; omega) _ _, ((HA5.out.setNew (q := ⟨w.heap.size, 0, none⟩) (Nat.le_refl _) _).setNew (q := ⟨w.heap.size, 1, none⟩) (Nat.le_refl _) _)⟩
        · have HT1 := takeName_no wr hrk h1
          have HE2 := Lib.hid (show RES = none by rw [HRES.out, if_neg h1])
          clear h1 HRES hrk
          go_wp2_with fail
          refine HT1.mono ?_
          rintro e w5 ⟨rfl, hb5⟩
          obtain ⟨hx5, ha5, hz5⟩ := HBX.out _ (hak.trans (Aw.of (hb5.mono hak.size)))
          have HA5 := Lib.hid ha5
          have HF := Lib.hid (hx5.two (.string ⟨#[]⟩) (.string ⟨#[]⟩))
          obtain ⟨r0, r1, rf⟩ := hx5
          clear HT1 hb5 hak ha5
          go_wp2_with fail
          obtain ⟨k0, k1⟩ := HF.out
          refine bodyPost_ret (v := .tuple #[.agg #[.string ⟨#[]⟩, .string ⟨#[]⟩], .bool false]) (by simp [results, Tryz.results29, go_sem, k0, k1]) rfl ?_
          rw [HE2.out]
          exact ⟨rfl, ((HA5.out.setNew (q := ⟨w.heap.size, 0, none⟩) (Nat.le_refl _) _).setNew (q := ⟨w.heap.size, 1, none⟩) (Nat.le_refl _) _)⟩

end Go.Proofs.YtiblffipfldgjaaGreatDoor

/-
  Types that may be, their texts; what value.Type answers.
-/
namespace Go.Proofs.YtiblffipfldgjaaGreatDoor
open Go.RowKit

/-! ### what the library's functions say of a type's wraps -/
def wrP (b : UInt8) : Bool := b == 33 || b == 93
theorem wrC (b : UInt8) : ([33, 93] : List UInt8).contains b = wrP b := by
  unfold wrP
  rw [List.contains_cons, List.contains_cons, List.contains_nil, Bool.or_false]
theorem drop_nil (p : UInt8 → Bool) : ∀ l : List UInt8, l.dropWhile p = [] ↔ l.all p = true
  | [] => by simp
  | b :: r => by
    rw [List.dropWhile_cons, List.all_cons]
    cases h : p b with
    | true => rw [if_pos rfl, drop_nil p r]; simp
    | false => rw [if_neg (by decide)]; simp
theorem drop_head (p : UInt8 → Bool) : ∀ (l : List UInt8) (b : UInt8) (r : List UInt8), l.dropWhile p = b :: r → p b = false
  | [], _, _, h => by simp at h
  | c :: l, b, r, h => by
    rw [List.dropWhile_cons] at h
    cases hc : p c with
    | true => rw [hc, if_pos rfl] at h; exact drop_head p l b r h
    | false =>
      rw [hc, if_neg (by decide)] at h
      injection h with h1 _
      rw [← h1]; exact hc
theorem trim_nil (l : List UInt8) : Lib.trimS l [33, 93] = [] ↔ l.all wrP = true := by
  have e : (fun x => ([33, 93] : List UInt8).contains x) = wrP := funext wrC
  unfold Lib.trimS Lib.trimLeftS Lib.trimRightS
  rw [e, drop_nil]
  constructor
  · intro h
    cases hd : l.reverse.dropWhile wrP with
    | nil =>
      have := (drop_nil wrP l.reverse).1 hd
      rwa [List.all_reverse] at this
    | cons b r =>
      have hb := drop_head wrP _ b r hd
      rw [hd, List.all_reverse, List.all_cons, hb, Bool.false_and] at h
      cases h
  · intro h
    have : l.reverse.dropWhile wrP = [] := (drop_nil wrP _).2 (by rw [List.all_reverse]; exact h)
    rw [this]; rfl
theorem contains_cons' (b : UInt8) (l sub : List UInt8) : Lib.contains (b :: l) sub = (sub.isPrefixOf (b :: l) || Lib.contains l sub) := by
  unfold Lib.contains
  rw [Lib.index]
  cases hp : sub.isPrefixOf (b :: l) with
  | true => rw [if_pos rfl]; rfl
  | false =>
    rw [if_neg (by decide), Bool.false_or]
    have h1 := Lib.index_ge l sub
    by_cases h : Lib.index l sub = -1
    · rw [h]; rfl
    · rw [if_neg (by simpa using h)]
      congr 1
      exact propext ⟨fun _ => by omega, fun _ => by omega⟩
theorem wr_eq : ∀ l : List UInt8, wrOk l = (l.all wrP && !Lib.contains l [33, 33])
  | [] => by rfl
  | [b] => by
    rw [contains_cons', List.all_cons]
    unfold wrOk
    have h1 : ([33, 33] : List UInt8).isPrefixOf [b] = false := by simp [List.isPrefixOf]
    have h2 : Lib.contains [] [33, 33] = false := by rfl
    rw [h1, h2]
    simp [wrP]
  | b :: c :: r => by
    rw [contains_cons', List.all_cons]
    unfold wrOk
    rw [wr_eq (c :: r)]
    have h1 : ([33, 33] : List UInt8).isPrefixOf (b :: c :: r) = (b == 33 && c == 33) := by
      simp only [List.isPrefixOf, Bool.and_true]
      rw [show ((33 : UInt8) == b) = (b == 33) from by rw [Bool.eq_iff_iff, beq_iff_eq, beq_iff_eq]; exact eq_comm, show ((33 : UInt8) == c) = (c == 33) from by rw [Bool.eq_iff_iff, beq_iff_eq, beq_iff_eq]; exact eq_comm]
    rw [h1]
    show (wrP b && !(b == 33 && c == 33) && ((c :: r).all wrP && !Lib.contains (c :: r) [33, 33])) = _
    cases wrP b <;> cases (b == 33 && c == 33) <;> cases ((c :: r).all wrP) <;> cases (Lib.contains (c :: r) [33, 33]) <;> rfl
theorem cnt_eq : ∀ l : List UInt8, Lib.countByte l 93 = cnt93 l
  | [] => rfl
  | b :: r => by
    show (b :: r).count 93 = (if b == 93 then 1 else 0) + cnt93 r
    rw [List.count_cons, ← cnt_eq r]
    show r.count 93 + _ = _ + r.count 93
    omega
theorem tyOk_eq (n ws : List UInt8) : tyOk n ws = (nameB n && (ws.all wrP && (!Lib.contains ws [33, 33] && decide (cnt93 ws ≤ 12)))) := by
  unfold tyOk
  rw [wr_eq, Bool.and_assoc]

theorem at_maxlen {w W : World} (hm : ∃ m, w.cell? ⟨0, 0, none⟩ = some (.int .i64 m)) (hb : Below w.heap.size w W) : ∃ m, W.cell? ⟨0, 0, none⟩ = some (.int .i64 m) := by
  obtain ⟨m, h⟩ := hm
  exact ⟨m, (hb.cell (p := ⟨0, 0, none⟩) (cell_lt h)).trans h⟩

set_option maxHeartbeats 4000000 in
set_option maxRecDepth 100000 in
theorem checkType_any (n s : ByteArray) (w : World) (hn : n.size ≤ 1000000) (hs : s.size ≤ 1000000) (hm : ∃ m, w.cell? ⟨0, 0, none⟩ = some (.int .i64 m)) :
    Calls Tryz.prog 13 #[.agg #[.string n, .string s]] w (BoolBelow (tyOk (vbl n) (vbl s)) w) := by
  have hb0 : Below w.heap.size w (w.alloc (.cells #[.string n, .string s] 27)) := (Below.refl _ w).alloc (Nat.le_refl _) _
  have hz0 : (w.alloc (.cells #[.string n, .string s] 27)).heap.size = w.heap.size + 1 := by simp
  have hbx : (w.alloc (.cells #[.string n, .string s] 27)).heap[w.heap.size]? = some (.cells #[.string n, .string s] 27 (0, 0)) := heap_alloc_new _ _
  have F : ∀ W, Below (w.alloc (.cells #[.string n, .string s] 27)).heap.size (w.alloc (.cells #[.string n, .string s] 27)) W → W.cell? ⟨w.heap.size, 0, none⟩ = some (.string n) ∧ W.cell? ⟨w.heap.size, 1, none⟩ = some (.string s) ∧ Below w.heap.size w W := fun W hW => by
    have hk := (hW.block w.heap.size (by rw [hz0]; omega)).trans hbx
    exact ⟨Lib.cell_of_heap hk 0, Lib.cell_of_heap hk 1, hb0.trans (hW.mono (by rw [hz0]; omega))⟩
  have HM := Lib.hid hm
  have HF := Lib.hid F
  have HU := Lib.hid (tyOk_eq (vbl n) (vbl s))
  have HN := name_any n (w.alloc (.cells #[.string n, .string s] 27)) (by unfold maxLen; omega)
  change Calls _ _ _ _ (fun e w' => e = .returned (.bool (nameB (vbl n))) ∧ _) at HN
  clear hm F hbx
  cases hnm : nameB (vbl n) with
  | false =>
    rw [hnm] at HN
    have HR := Lib.hid (show tyOk (vbl n) (vbl s) = false by rw [HU.out, hnm]; rfl)
    clear hnm
    go_enter Tryz.func13, Tryz.ntmps13
    go_wp2_with fail
    refine HN.mono ?_
    rintro e w1 ⟨rfl, b1⟩
    obtain ⟨c0, c1, hb⟩ := HF.out w1 b1
    go_wp2_with fail
    go_ret
    exact boolBelow_of HR.out.symm hb
  | true =>
    rw [hnm] at HN
    have HU2 := Lib.hid (show tyOk (vbl n) (vbl s) = ((vbl s).all wrP && (!Lib.contains (vbl s) [33, 33] && decide (cnt93 (vbl s) ≤ 12))) by rw [HU.out, hnm]; rfl)
    have HT := fun W => Any.strings_Trim_laid Tryz.lays160 (by kernel_rfl) s ⟨#[33, 93]⟩ W (by omega) (by decide) (ascii_of_all (by decide))
    clear hnm HU
    by_cases hall : (vbl s).all wrP = true
    · have ht : vbl (⟨(Lib.trimS s.data.toList [33, 93]).toArray⟩ : ByteArray) = [] := (trim_nil (vbl s)).2 hall
      change ∀ W, Calls _ _ _ W (fun e w' => e = .returned (.string (⟨(Lib.trimS s.data.toList [33, 93]).toArray⟩ : ByteArray)) ∧ _) at HT
      generalize (⟨(Lib.trimS s.data.toList [33, 93]).toArray⟩ : ByteArray) = TR at *
      have e1 := toList_yes ht
      have HU3 := Lib.hid (show tyOk (vbl n) (vbl s) = (!Lib.contains (vbl s) [33, 33] && decide (cnt93 (vbl s) ≤ 12)) by rw [HU2.out, hall]; rfl)
      clear ht hall HU2
      have HC := fun (W : World) m => Tryz.strings_Contains s ⟨#[33, 33]⟩ m W (by omega)
      change ∀ (W : World) m, W.cell? ⟨0, 0, none⟩ = some (.int .i64 m) → Calls _ _ _ W (fun e w' => e = .returned (.bool (Lib.contains (vbl s) [33, 33])) ∧ w' = W) at HC
      go_enter Tryz.func13, Tryz.ntmps13
      go_wp2_with fail
      refine HN.mono ?_
      rintro e w1 ⟨rfl, b1⟩
      obtain ⟨c0, c1, hb⟩ := HF.out w1 b1
      have B1 := Lib.hid b1
      clear b1
      go_wp2_with fail
      refine (HT _).mono ?_
      rintro e w2 ⟨rfl, b2⟩
      have b12 := B1.out.trans (b2.mono B1.out.size)
      obtain ⟨d0, d1, hb2⟩ := HF.out w2 b12
      obtain ⟨m, hm2⟩ := at_maxlen HM.out hb2
      have HC2 := HC w2 m hm2
      clear b2 b12 HT HN
      cases hct : Lib.contains (vbl s) [33, 33] with
      | true =>
        rw [hct] at HC2
        have HR := Lib.hid (show tyOk (vbl n) (vbl s) = false by rw [HU3.out, hct]; rfl)
        clear hct
        go_wp2_with fail
        refine HC2.mono ?_
        rintro e w3 ⟨rfl, rfl⟩
        go_wp2_with fail
        go_ret
        exact boolBelow_of HR.out.symm hb2
      | false =>
        rw [hct] at HC2
        have HR := Lib.hid (show tyOk (vbl n) (vbl s) = decide (cnt93 (vbl s) ≤ 12) by rw [HU3.out, hct]; rfl)
        have HK := Tryz.strings_Count_one s 93 w2
        rw [show Lib.countByte s.data.toList 93 = cnt93 (vbl s) from cnt_eq _] at HK
        clear hct
        generalize cnt93 (vbl s) = c at *
        go_wp2_with fail
        refine HC2.mono ?_
        rintro e w3 ⟨rfl, rfl⟩
        go_wp2_with fail
        refine HK.mono ?_
        rintro e w4 ⟨rfl, rfl⟩
        by_cases hc : c ≤ 12
        · have hd : decide ((c : Int) ≤ 12) = true := decide_eq_true (by omega)
          have HR2 := Lib.hid (show tyOk (vbl n) (vbl s) = true by rw [HR.out]; exact decide_eq_true hc)
          clear hc
          go_wp2_with fail
          go_ret
          exact boolBelow_of HR2.out.symm hb2
        · have hd : decide ((c : Int) ≤ 12) = false := decide_eq_false (by omega)
          have HR2 := Lib.hid (show tyOk (vbl n) (vbl s) = false by rw [HR.out]; exact decide_eq_false hc)
          clear hc
          go_wp2_with fail
          go_ret
          exact boolBelow_of HR2.out.symm hb2
    · have hall : (vbl s).all wrP = false := by simpa using hall
      have ht : vbl (⟨(Lib.trimS s.data.toList [33, 93]).toArray⟩ : ByteArray) ≠ [] := fun h => by
        have := (trim_nil (vbl s)).1 h
        rw [hall] at this
        cases this
      change ∀ W, Calls _ _ _ W (fun e w' => e = .returned (.string (⟨(Lib.trimS s.data.toList [33, 93]).toArray⟩ : ByteArray)) ∧ _) at HT
      generalize (⟨(Lib.trimS s.data.toList [33, 93]).toArray⟩ : ByteArray) = TR at *
      have e1 := toList_no ht
      have HR := Lib.hid (show tyOk (vbl n) (vbl s) = false by rw [HU2.out, hall]; rfl)
      clear ht hall HU2
      go_enter Tryz.func13, Tryz.ntmps13
      go_wp2_with fail
      refine HN.mono ?_
      rintro e w1 ⟨rfl, b1⟩
      obtain ⟨c0, c1, hb⟩ := HF.out w1 b1
      have B1 := Lib.hid b1
      clear b1
      go_wp2_with fail
      refine (HT _).mono ?_
      rintro e w2 ⟨rfl, b2⟩
      obtain ⟨d0, d1, hb2⟩ := HF.out w2 (B1.out.trans (b2.mono B1.out.size))
      clear b2 HT HN
      go_wp2_with fail
      go_ret
      exact boolBelow_of HR.out.symm hb2

end Go.Proofs.YtiblffipfldgjaaGreatDoor

/-
  A type's text; what value.Type answers.
-/
namespace Go.Proofs.YtiblffipfldgjaaGreatDoor
open Go.RowKit

def tyTextB (n ws : List UInt8) : List UInt8 := if tyOk n ws then tyText n ws else []
theorem repeat_rep : ∀ c : Nat, Lib.repeatL [91] c = List.replicate c 91
  | 0 => rfl
  | c + 1 => by rw [Lib.repeatL, repeat_rep c, List.replicate_succ]; rfl

set_option maxHeartbeats 4000000 in
set_option maxRecDepth 100000 in
theorem typeText_any (n s : ByteArray) (w : World) (hn : n.size ≤ 1000000) (hs : s.size ≤ 1000000) (hm : ∃ m, w.cell? ⟨0, 0, none⟩ = some (.int .i64 m)) :
    Calls Tryz.prog 12 #[.agg #[.string n, .string s]] w (StrBelow w (tyTextB (vbl n) (vbl s))) := by
  have hb0 : Below w.heap.size w (w.alloc (.cells #[.string n, .string s] 27)) := (Below.refl _ w).alloc (Nat.le_refl _) _
  have hz0 : (w.alloc (.cells #[.string n, .string s] 27)).heap.size = w.heap.size + 1 := by simp
  have hbx : (w.alloc (.cells #[.string n, .string s] 27)).heap[w.heap.size]? = some (.cells #[.string n, .string s] 27 (0, 0)) := heap_alloc_new _ _
  have F : ∀ W, Below (w.alloc (.cells #[.string n, .string s] 27)).heap.size (w.alloc (.cells #[.string n, .string s] 27)) W → W.cell? ⟨w.heap.size, 0, none⟩ = some (.string n) ∧ W.cell? ⟨w.heap.size, 1, none⟩ = some (.string s) ∧ Below w.heap.size w W := fun W hW => by
    have hk := (hW.block w.heap.size (by rw [hz0]; omega)).trans hbx
    exact ⟨Lib.cell_of_heap hk 0, Lib.cell_of_heap hk 1, hb0.trans (hW.mono (by rw [hz0]; omega))⟩
  have HF := Lib.hid F
  have HC := checkType_any n s (w.alloc (.cells #[.string n, .string s] 27)) hn hs (at_maxlen hm hb0)
  have HU := Lib.hid (show tyTextB (vbl n) (vbl s) = if tyOk (vbl n) (vbl s) then tyText (vbl n) (vbl s) else [] from rfl)
  clear hm F hbx hb0
  cases hok : tyOk (vbl n) (vbl s) with
  | false =>
    rw [hok] at HC
    have HR := Lib.hid (show tyTextB (vbl n) (vbl s) = [] by rw [HU.out, hok]; rfl)
    clear hok
    go_enter Tryz.func12, Tryz.ntmps12
    go_wp2_with fail
    refine HC.mono ?_
    rintro e w1 ⟨rfl, b1⟩
    obtain ⟨c0, c1, hb⟩ := HF.out w1 b1
    go_wp2_with fail
    go_ret
    exact strBelow_mk (l := []) HR.out.symm hb
  | true =>
    rw [hok] at HC
    have hc12 : cnt93 (vbl s) ≤ 12 := by
      unfold tyOk at hok
      rw [Bool.and_eq_true, Bool.and_eq_true, decide_eq_true_eq] at hok
      exact hok.2.2
    have HR := Lib.hid (show tyTextB (vbl n) (vbl s) = List.replicate (cnt93 (vbl s)) 91 ++ (vbl n ++ vbl s) by rw [HU.out, hok]; rfl)
    have HK : ∀ W, Calls Tryz.prog 25 #[.string s, .string ⟨#[93]⟩] W fun e w' => e = .returned (.int .i64 (cnt93 (vbl s) : Nat)) ∧ w' = W := fun W => by
      have := Tryz.strings_Count_one s 93 W
      rwa [show Lib.countByte s.data.toList 93 = cnt93 (vbl s) from cnt_eq _] at this
    have HP : ∀ W, Calls Tryz.prog 24 #[.string ⟨#[91]⟩, .int .i64 (cnt93 (vbl s) : Nat)] W fun e w' => e = .returned (.string ⟨(List.replicate (cnt93 (vbl s)) 91).toArray⟩) ∧ Below W.heap.size W w' := fun W => by
      have := Tryz.strings_Repeat ⟨#[91]⟩ (cnt93 (vbl s)) W (by omega) (by show 1 * cnt93 (vbl s) ≤ _; omega)
      rwa [show (⟨#[91]⟩ : ByteArray).data.toList = [91] from rfl, repeat_rep] at this
    have hrz : (⟨(List.replicate (cnt93 (vbl s)) 91).toArray⟩ : ByteArray).size ≤ 12 := by show (List.replicate (cnt93 (vbl s)) (91 : UInt8)).length ≤ 12; rw [List.length_replicate]; exact hc12
    have hrv : vbl (⟨(List.replicate (cnt93 (vbl s)) 91).toArray⟩ : ByteArray) = List.replicate (cnt93 (vbl s)) 91 := rfl
    rw [← hrv] at HR
    generalize (⟨(List.replicate (cnt93 (vbl s)) 91).toArray⟩ : ByteArray) = RP at *
    generalize cnt93 (vbl s) = c at *
    clear hok hrv HU
    go_enter Tryz.func12, Tryz.ntmps12
    go_wp2_with fail
    refine HC.mono ?_
    rintro e w1 ⟨rfl, b1⟩
    obtain ⟨c0, c1, hb⟩ := HF.out w1 b1
    have hz1 : RP.size + n.size ≤ 2000000 := by omega
    have hz2 : (RP ++ n).size ≤ 2000000 := by rw [ByteArray.size_append]; omega
    obtain ⟨I, g, hNE, hG1, hG2⟩ : ∃ (I : Type) (g : I → World), Nonempty I ∧ (∀ i, Below w1.heap.size w1 (g i)) ∧ ∀ V, Below w1.heap.size w1 V → ∃ i, V = g i := ⟨{V // Below w1.heap.size w1 V}, Subtype.val, ⟨⟨w1, Below.refl _ _⟩⟩, fun i => i.2, fun V h => ⟨⟨V, h⟩, rfl⟩⟩
    have hw1 : w.heap.size < w1.heap.size := by have := b1.size; rw [hz0] at this; omega
    have f0 : ∀ i, (g i).cell? ⟨w.heap.size, 0, none⟩ = some (.string n) := fun i => ((hG1 i).cell (p := ⟨w.heap.size, 0, none⟩) hw1).trans c0
    have f1 : ∀ i, (g i).cell? ⟨w.heap.size, 1, none⟩ = some (.string s) := fun i => ((hG1 i).cell (p := ⟨w.heap.size, 1, none⟩) hw1).trans c1
    have HB := Lib.hid (fun i => hb.trans ((hG1 i).mono hb.size))
    have hc0 := hG2 _ (Below.refl w1.heap.size w1).drew
    have SK : ∀ i, Calls Tryz.prog 25 #[.string s, .string ⟨#[93]⟩] (g i) fun e w' => e = .returned (.int .i64 (c : Nat)) ∧ ∃ i', w' = g i' := fun i => (HK _).mono (fun e w7 he => ⟨he.1, i, he.2⟩)
    have SP : ∀ i, Calls Tryz.prog 24 #[.string ⟨#[91]⟩, .int .i64 (c : Nat)] (g i) fun e w' => e = .returned (.string RP) ∧ ∃ i', w' = g i' := fun i => (HP _).mono (fun e w7 he => ⟨he.1, hG2 _ ((hG1 i).trans (he.2.mono (hG1 i).size))⟩)
    clear hG1 hG2 HK HP HC b1 hb c0 c1 hw1 hz0
    go_upto_region 3 with fail
    refine wp_region_quietC (C := fun W => ∃ i, W = g i) (by kernel_rfl) (by kernel_rfl) hc0 ?_
    repeat (go_big_quiet_step (first | (go_at_call 25; exact SK _) | (go_at_call 24; exact SP _)))
    refine wpQuiet_nil ?_
    intro _ hw'
    obtain ⟨i, rfl⟩ := hw'
    have hb := HB.out i
    go_wp2_with fail
    go_ret
    rw [HR.out]
    refine ⟨?_, hb⟩
    have e : (RP ++ n) ++ s = ⟨(vbl RP ++ (vbl n ++ vbl s)).toArray⟩ := of_vbl (by rw [vbl_append, vbl_append, List.append_assoc])
    show Ending.returned (.string ((RP ++ n) ++ s)) = _
    rw [e]

/-- What Type answers of a row of n tokens. -/
def TyAns (n : Nat) (w : World) (o : Option (List UInt8 × List UInt8 × List Sk)) (e : Ending) (w' : World) : Prop :=
  Below w.heap.size w w' ∧ match o with
    | none => e = .returned (.tuple #[.agg #[.string ⟨#[]⟩, .string ⟨#[]⟩], .int .i64 0, .bool false])
    | some (nm, ws, r) => e = .returned (.tuple #[.agg #[.string ⟨nm.toArray⟩, .string ⟨ws.toArray⟩], .int .i64 ((n - r.length : Nat) : Int), .bool true])

theorem Bt.twoA {W : World} {B : Nat} (h : Bt W B) (hlt : B < W.heap.size) (c0 c1 : Value) (o : Obj) : (((W.setCell ⟨B, 0, none⟩ c0).setCell ⟨B, 1, none⟩ c1).alloc o).cell? ⟨B, 0, none⟩ = some c0 ∧ (((W.setCell ⟨B, 0, none⟩ c0).setCell ⟨B, 1, none⟩ c1).alloc o).cell? ⟨B, 1, none⟩ = some c1 := by
  obtain ⟨k0, k1⟩ := h.two c0 c1
  have c : ∀ j, (((W.setCell ⟨B, 0, none⟩ c0).setCell ⟨B, 1, none⟩ c1).alloc o).cell? ⟨B, j, none⟩ = ((W.setCell ⟨B, 0, none⟩ c0).setCell ⟨B, 1, none⟩ c1).cell? ⟨B, j, none⟩ := fun j => World.cell?_of_block (a := ⟨B, j, none⟩) (Below.heap_alloc _ _ _ (by rw [size_two]; exact hlt))
  exact ⟨(c 0).trans k0, (c 1).trans k1⟩

set_option maxHeartbeats 4000000 in
set_option maxRecDepth 100000 in
theorem valType_any {a : Option Addr} {cap : Nat} {ts : List Tk} (w : World) (ht : TkAt w a ts) (hc : ts.length ≤ cap) (hs : ts.length ≤ 9000) (hz : ∀ t ∈ ts, t.s.length ≤ 1000000) :
    Calls Tryz.prog 14 #[.slice a ts.length cap, .int .i64 0] w (TyAns ts.length w (typeP (ts.map strip))) := by
  have hb0 : Below w.heap.size w (w.alloc (.cells #[.string ⟨#[]⟩, .string ⟨#[]⟩] 27)) := (Below.refl _ w).alloc (Nat.le_refl _) _
  have HR := readerAt_zero a ts.length cap (w.alloc (.cells #[.string ⟨#[]⟩, .string ⟨#[]⟩] 27))
  have hs0 : (w.alloc (.cells #[.string ⟨#[]⟩, .string ⟨#[]⟩] 27)).heap.size = w.heap.size + 1 := by simp
  have hr := rv_new hb0 ht hc hs hz
  rw [hs0] at hr HR
  have hX : Bt ((w.alloc (.cells #[.string ⟨#[]⟩, .string ⟨#[]⟩] 27)).alloc (.cells #[.slice a ts.length cap, .int .i64 0] 66)) w.heap.size := (Bt.new w).keep (Below.heap_alloc _ _ _ (by simp))
  have hb1 : Below w.heap.size w ((w.alloc (.cells #[.string ⟨#[]⟩, .string ⟨#[]⟩] 27)).alloc (.cells #[.slice a ts.length cap, .int .i64 0] 66)) := hb0.alloc (by simp) _
  have hs1 : ((w.alloc (.cells #[.string ⟨#[]⟩, .string ⟨#[]⟩] 27)).alloc (.cells #[.slice a ts.length cap, .int .i64 0] 66)).heap.size = w.heap.size + 2 := by simp
  have HV := typeOf_any (R := w.heap.size + 1) (a := a) (cap := cap) (ts := ts) (p := 0) _ hr
  rw [ahead_zero] at HV
  clear hr hb0 hs0
  cases ho : typeP (ts.map strip) with
  | none =>
    rw [ho] at HV
    go_enter Tryz.func14, Tryz.ntmps14
    go_wp2_with fail
    refine HR.mono ?_
    rintro e w1 ⟨rfl, rfl⟩
    go_wp2_with fail
    refine HV.mono ?_
    rintro e w2 ⟨rfl, ha⟩
    have hz2 := ha.size
    rw [hs1] at hz2
    have hlt2 : w.heap.size < w2.heap.size := by omega
    have hx2 : Bt w2 w.heap.size := hX.keep (ha.block _ (by rw [hs1]; omega) (by omega))
    have ha2 : Below w.heap.size w w2 := hb1.trans ((ha.mono (by rw [hs1]; omega)).below (by omega))
    have HF := Lib.hid (fun c0 c1 o => hx2.twoA hlt2 c0 c1 o)
    have HA := Lib.hid ha2
    obtain ⟨r0, r1, rf⟩ := hx2
    clear ha ha2 HV HR hX hb1 hs1 hz2 ho
    go_wp2_with fail
    obtain ⟨k0, k1⟩ := HF.out (.string ⟨#[]⟩) (.string ⟨#[]⟩) (.cells #[.string ⟨#[]⟩, .string ⟨#[]⟩] 27)
    refine bodyPost_ret (v := .tuple #[.agg #[.string ⟨#[]⟩, .string ⟨#[]⟩], .int .i64 0, .bool false]) (by simp [results, Tryz.results14, go_sem, k0, k1]) rfl ?_
    exact ⟨((HA.out.setCell (p := ⟨w.heap.size, 0, none⟩) (Nat.le_refl _) _).setCell (p := ⟨w.heap.size, 1, none⟩) (Nat.le_refl _) _).alloc (by rw [size_two]; omega) _, rfl⟩
  | some o =>
    obtain ⟨nm, ws, r⟩ := o
    rw [ho] at HV
    go_enter Tryz.func14, Tryz.ntmps14
    go_wp2_with fail
    refine HR.mono ?_
    rintro e w1 ⟨rfl, rfl⟩
    go_wp2_with fail
    refine HV.mono ?_
    rintro e w2 ⟨rfl, q, hl, hr, ha⟩
    have hz2 := ha.size
    rw [hs1] at hz2
    have hlt2 : w.heap.size < w2.heap.size := by omega
    have hx2 : Bt w2 w.heap.size := hX.keep (ha.block _ (by rw [hs1]; omega) (by omega))
    have ha2 : Below w.heap.size w w2 := hb1.trans ((ha.mono (by rw [hs1]; omega)).below (by omega))
    have hq : ts.length - r.length = q := by
      have := hr.hp
      rw [← hl, ahead_len]; omega
    have HQ := Lib.hid hq
    have c1 := hr.c1
    have hRlt : w.heap.size + 1 < w2.heap.size := by omega
    have HF := Lib.hid (fun c0 c1 o => hx2.twoA hlt2 c0 c1 o)
    have HA := Lib.hid ha2
    obtain ⟨r0, r1, rf⟩ := hx2
    clear ha ha2 HV HR hX hb1 hs1 hz2 ho hq hl hr
    go_upto_region 5 with fail
    go_region
    all_goals
      go_wp2_with fail
      obtain ⟨k0, k1⟩ := HF.out (.string ⟨nm.toArray⟩) (.string ⟨ws.toArray⟩) (.cells #[.string ⟨nm.toArray⟩, .string ⟨ws.toArray⟩] 27)
      refine bodyPost_ret (v := .tuple #[.agg #[.string ⟨nm.toArray⟩, .string ⟨ws.toArray⟩], .int .i64 q, .bool true]) (by simp [results, Tryz.results14, go_sem, k0, k1]) rfl ?_
      exact ⟨below_drewN (((HA.out.setCell (p := ⟨w.heap.size, 0, none⟩) (Nat.le_refl _) _).setCell (p := ⟨w.heap.size, 1, none⟩) (Nat.le_refl _) _).alloc (by rw [size_two]; omega) _) _, by rw [← HQ.out]⟩

end Go.Proofs.YtiblffipfldgjaaGreatDoor
