/-
  PrintWords: its walk.
-/
import Derived.Test.YtkfllppggjhhmaaGreatDoorMPpw
import Derived.Test.YtkfllppggjhhmaaGreatDoorMDa
import Derived.Test.YtkfllppggjhhmaaGreatDoorMSvSel
namespace Go.Proofs.YtkfllppggjhhmaaGreatDoor
open Go.RowKit
set_option linter.unusedVariables false

/-- The field's block; nothing older has changed. -/
structure Fl (w W : World) (al : ByteArray) (va vd vs : Value) : Prop where
  s : W.heap[w.heap.size]? = some (.cells #[.int .i64 1, .string al, .string ⟨#[102]⟩, .string ⟨#[]⟩, va, vd, vs] 49 (0, 0))
  bel : Below w.heap.size w W
theorem infoDirW : (Tryz.prog.info? 67).map (fun i => (i.zero, i.size, i.bytes)) = some (some (.agg #[.string ⟨#[]⟩, .slice none 0 0]), 2, 40) := by kernel_rfl
/-- A row that lies below block B3, where nothing below B3 has changed but the field. -/
theorem RowD.stay {α : Type} {E : ElemR α} {sz : Nat} (hE : ElemOk E sz) {w W W' : World} {B3 : Nat} {xs : List α} {v : Value} (h : RowD E sz W (fun b => w.heap.size < b ∧ b < B3) xs v) (hk : ∀ b, b < B3 → b ≠ w.heap.size → W'.heap[b]? = W.heap[b]?) : RowD E sz W' (fun b => w.heap.size < b ∧ b < B3) xs v :=
  RowD.step hE (fun _ h => h) (fun b o hb => World.cell?_of_block (a := ⟨b, o, none⟩) (hk b hb.2 (by have := hb.1; omega))) h
/-- One record more, and the row's header stored into the field. -/
theorem own_more {α : Type} {E : ElemR α} {T : TypeId} {sz B i : Nat} (hE : ElemOk E sz) {w X W8 : World} {xs : List α} {cs es : List Value} {v : Value} {g8 cap8 j : Nat} {x : α} {o : Obj} (hB : w.heap.size < B) (hx : xs.length = i) (hA : OwnR E B T sz xs cs v (X.alloc o)) (hEx : E (X.alloc o) (OD B (X.alloc o) v) x es)
    (hown : W8.ownsRow B T sz (.slice (some ⟨g8, 0, none⟩) (i + 1) cap8) (i + 1) (cs ++ es)) (hg : (X.alloc o).grownBy W8 v.ownBlock) (hlie : v.ownBlock = some g8 ∨ g8 = (X.alloc o).heap.size) (u : Value) :
    OwnR E B T sz (xs ++ [x]) (cs ++ es) (.slice (some ⟨g8, 0, none⟩) (i + 1) cap8) (W8.setCell ⟨w.heap.size, j, none⟩ u) := by
  subst hx
  have h1 := hA.snoc hE hEx hown hg (by
    rcases hlie with e | e
    · exact .inl e.symm
    · exact .inr (by rw [e]; rfl))
  exact h1.keep hE (fun b hb _ => Below.heap_setCell _ _ _ _ (show b ≠ w.heap.size by omega)) (by simp [World.setCell])
/-- What stands below B, but for the field, stays where a row from B on grows. -/
theorem grow_old {α : Type} {E : ElemR α} {T : TypeId} {sz B : Nat} {X W8 : World} {xs : List α} {cs : List Value} {v : Value} {o : Obj} (hA : OwnR E B T sz xs cs v (X.alloc o)) (hg : (X.alloc o).grownBy W8 v.ownBlock) (hBX : B ≤ X.heap.size) : ∀ b, b < B → W8.heap[b]? = X.heap[b]? := fun b hb =>
  (hg.block b (by simp; omega) (fun e => by have := (hA.own.lt b (by first | exact e | exact e.symm)).1; omega)).trans (Below.heap_alloc _ _ _ (by omega))
theorem grow_bel {α : Type} {E : ElemR α} {T : TypeId} {sz B n : Nat} {X W8 : World} {xs : List α} {cs : List Value} {v : Value} {o : Obj} (hA : OwnR E B T sz xs cs v (X.alloc o)) (hg : (X.alloc o).grownBy W8 v.ownBlock) (hBX : B ≤ X.heap.size) (hn : n ≤ B) : Below n X W8 :=
  ⟨hg.os, hg.tape, hg.output, by have := hg.size; simp at this; omega, fun b hb => grow_old hA hg hBX b (by omega)⟩

theorem RowD.capLe {α : Type} {E : ElemR α} {sz : Nat} {W : World} {D : Nat → Prop} {xs : List α} {a : Option Addr} {n cap : Nat} (h : RowD E sz W D xs (.slice a n cap)) (hl : xs.length = n) : n ≤ cap := by
  obtain ⟨a', cap', e, _, h2, _⟩ := h
  injection e with _ e1 e2
  omega
/-- A directive laid for append: its arguments' row, its own. -/
theorem dir_made {w wr : World} {B k : Nat} {aD : Option Addr} {cD : Nat} {ds : List Value} (hO : OwnR DirE B 67 2 (wDirs k) ds (.slice aD k cD) wr) (hB : B ≤ wr.heap.size) (hw : w.heap.size < B) :
    let X := wr.alloc (.cells #[.string ⟨#[105, 102]⟩, .int .i64 9, .string ⟨#[118]⟩, .slice none 0 0, .slice none 0 0] 55 (0, 0))
    let W := X.alloc (.cells #[.string ⟨#[100]⟩, .slice (some ⟨wr.heap.size, 0, none⟩) 1 1] 67 (0, 0))
    OwnR DirE B 67 2 (wDirs k) ds (.slice aD k cD) W ∧ W.ownsRow B 67 2 (.slice aD k cD) k ds ∧ (∀ j u, [Value.string ⟨#[100]⟩, .slice (some ⟨wr.heap.size, 0, none⟩) 1 1][j]? = some u → W.cell? ((⟨wr.heap.size + 1, 0, none⟩ : Addr).add j) = some u) ∧ (∀ u ∈ [Value.string ⟨#[100]⟩, .slice (some ⟨wr.heap.size, 0, none⟩) 1 1], u.oneCell' = true) ∧ B ≤ W.heap.size ∧ W.heap.size = wr.heap.size + 2 ∧ DirE W (OD B W (.slice aD k cD)) wDir [.string ⟨#[100]⟩, .slice (some ⟨wr.heap.size, 0, none⟩) 1 1] := by
  intro X W
  have hX : X.heap.size = wr.heap.size + 1 := by simp [X]
  have hW : W.heap.size = wr.heap.size + 2 := by simp [W, X]
  have hA : OwnR DirE B 67 2 (wDirs k) ds (.slice aD k cD) W := hO.keep dirOk (fun b _ hl => (Below.heap_alloc _ _ _ (by rw [hX]; omega)).trans (Below.heap_alloc _ _ _ hl)) (by rw [hW]; omega)
  have hr : W.heap[wr.heap.size]? = some (.cells #[.string ⟨#[105, 102]⟩, .int .i64 9, .string ⟨#[118]⟩, .slice none 0 0, .slice none 0 0] 55 (0, 0)) := (Below.heap_alloc _ _ _ (by rw [hX]; omega)).trans (heap_alloc_new _ _)
  refine ⟨hA, ?_, ?_, ?_, by rw [hW]; omega, hW, ?_⟩
  · have h9 := hA.own
    rwa [show (wDirs k).length = k by simp [wDirs]] at h9
  · have h5 := rec_new X 2 #[.string ⟨#[100]⟩, .slice (some ⟨wr.heap.size, 0, none⟩) 1 1] 67
    rw [hX] at h5
    exact h5
  · intro u hu
    simp at hu
    rcases hu with rfl | rfl <;> rfl
  · refine ⟨by decide, _, rfl, row_one1 (cs := [.string ⟨#[105, 102]⟩, .int .i64 9, .string ⟨#[118]⟩, .slice none 0 0, .slice none 0 0]) hr rfl ⟨hB, by rw [hW]; omega, fun e => ?_⟩ ⟨⟨by decide, vs_leafW _ _ (by decide)⟩, _, _, _, _, rfl, 1, rd_leaf _ _ 0 9 ⟨#[118]⟩ (by decide)⟩⟩
    have := (hO.own.lt _ (by first | exact e | exact e.symm)).2
    omega

/-- A selection laid for append: the row of its set, its own. -/
theorem sel_made {w wr : World} {B k : Nat} {aD : Option Addr} {cD : Nat} {ds : List Value} (hO : OwnR (SelE 2) B 49 7 (wSels k) ds (.slice aD k cD) wr) (hB : B ≤ wr.heap.size) (hw : w.heap.size < B) :
    let X := wr.alloc (.cells #[.int .i64 2, .string ⟨#[]⟩, .string ⟨#[70]⟩, .string ⟨#[]⟩, .slice none 0 0, .slice none 0 0, .slice none 0 0] 49 (0, 0))
    let W := X.alloc (.cells #[.int .i64 3, .string ⟨#[]⟩, .string ⟨#[]⟩, .string ⟨#[84]⟩, .slice none 0 0, .slice none 0 0, .slice (some ⟨wr.heap.size, 0, none⟩) 1 1] 49 (0, 0))
    OwnR (SelE 2) B 49 7 (wSels k) ds (.slice aD k cD) W ∧ W.ownsRow B 49 7 (.slice aD k cD) k ds ∧ (∀ j u, [Value.int .i64 3, .string ⟨#[]⟩, .string ⟨#[]⟩, .string ⟨#[84]⟩, .slice none 0 0, .slice none 0 0, .slice (some ⟨wr.heap.size, 0, none⟩) 1 1][j]? = some u → W.cell? ((⟨wr.heap.size + 1, 0, none⟩ : Addr).add j) = some u) ∧ (∀ u ∈ [Value.int .i64 3, .string ⟨#[]⟩, .string ⟨#[]⟩, .string ⟨#[84]⟩, .slice none 0 0, .slice none 0 0, .slice (some ⟨wr.heap.size, 0, none⟩) 1 1], u.oneCell' = true) ∧ B ≤ W.heap.size ∧ W.heap.size = wr.heap.size + 2 ∧ (SelE 2) W (OD B W (.slice aD k cD)) wSub [.int .i64 3, .string ⟨#[]⟩, .string ⟨#[]⟩, .string ⟨#[84]⟩, .slice none 0 0, .slice none 0 0, .slice (some ⟨wr.heap.size, 0, none⟩) 1 1] := by
  intro X W
  have hX : X.heap.size = wr.heap.size + 1 := by simp [X]
  have hW : W.heap.size = wr.heap.size + 2 := by simp [W, X]
  have hA : OwnR (SelE 2) B 49 7 (wSels k) ds (.slice aD k cD) W := hO.keep (selOk 2) (fun b _ hl => (Below.heap_alloc _ _ _ (by rw [hX]; omega)).trans (Below.heap_alloc _ _ _ hl)) (by rw [hW]; omega)
  have hr : W.heap[wr.heap.size]? = some (.cells #[.int .i64 2, .string ⟨#[]⟩, .string ⟨#[70]⟩, .string ⟨#[]⟩, .slice none 0 0, .slice none 0 0, .slice none 0 0] 49 (0, 0)) := (Below.heap_alloc _ _ _ (by rw [hX]; omega)).trans (heap_alloc_new _ _)
  refine ⟨hA, ?_, ?_, ?_, by rw [hW]; omega, hW, ?_⟩
  · have h9 := hA.own
    rwa [show (wSels k).length = k by simp [wSels]] at h9
  · have h5 := rec_new X 7 #[.int .i64 3, .string ⟨#[]⟩, .string ⟨#[]⟩, .string ⟨#[84]⟩, .slice none 0 0, .slice none 0 0, .slice (some ⟨wr.heap.size, 0, none⟩) 1 1] 49
    rw [hX] at h5
    exact h5
  · intro u hu
    simp at hu
    rcases hu with rfl | rfl | rfl | rfl | rfl | rfl | rfl <;> rfl
  · refine ⟨⟨by decide, by decide, by decide⟩, _, _, _, rfl, .nil, .nil, row_one1 (E := SelE 1) (cs := [.int .i64 2, .string ⟨#[]⟩, .string ⟨#[70]⟩, .string ⟨#[]⟩, .slice none 0 0, .slice none 0 0, .slice none 0 0]) hr rfl ⟨hB, by rw [hW]; omega, fun e => ?_⟩ ⟨⟨by decide, by decide, by decide⟩, _, _, _, rfl, .nil, .nil, .nil⟩⟩
    have := (hO.own.lt _ (by first | exact e | exact e.symm)).2
    omega

/-- The document that is printed at the end. -/
theorem words_doc {w w2 : World} {i k h : Nat} {al : Bool} {AL : ByteArray} {va vd vs : Value} {D0 : Nat → Prop} (hD0 : ∀ x, D0 x → w.heap.size < x ∧ x < w2.heap.size) (hs : SelE 3 w2 D0 (wSel i k al h) [.int .i64 1, .string AL, .string ⟨#[102]⟩, .string ⟨#[]⟩, va, vd, vs]) (hw : w.heap.size < w2.heap.size) :
    let X := w2.alloc (.cells #[.int .i64 1, .string AL, .string ⟨#[102]⟩, .string ⟨#[]⟩, va, vd, vs] 49)
    let W := X.alloc (.cells #[.bool true, .string ⟨#[77]⟩, .slice none 0 0, .slice none 0 0, .slice (some ⟨w2.heap.size, 0, none⟩) 1 1] 45)
    DocE W (fun x => w.heap.size < x ∧ x < w2.heap.size + 2) (wDoc i k al h) (.agg #[.slice (some ⟨w2.heap.size + 1, 0, none⟩) 1 1, .slice none 0 0]) ∧ dpD 4 (wDoc i k al h) = true ∧ (∀ x, (w.heap.size < x ∧ x < w2.heap.size + 2) → x < W.heap.size) ∧ Below w2.heap.size w2 W ∧ W.heap.size = w2.heap.size + 2 := by
  intro X W
  have hX : X.heap.size = w2.heap.size + 1 := by simp [X]
  have hW : W.heap.size = w2.heap.size + 2 := by simp [W, X]
  have hx1 : W.heap[w2.heap.size]? = some (.cells #[.int .i64 1, .string AL, .string ⟨#[102]⟩, .string ⟨#[]⟩, va, vd, vs] 49 (0, 0)) := (Below.heap_alloc _ _ _ (by rw [hX]; omega)).trans (heap_alloc_new _ _)
  have hx2 : W.heap[w2.heap.size + 1]? = some (.cells #[.bool true, .string ⟨#[77]⟩, .slice none 0 0, .slice none 0 0, .slice (some ⟨w2.heap.size, 0, none⟩) 1 1] 45 (0, 0)) := by
    have := heap_alloc_new X (.cells #[.bool true, .string ⟨#[77]⟩, .slice none 0 0, .slice none 0 0, .slice (some ⟨w2.heap.size, 0, none⟩) 1 1] 45)
    rwa [hX] at this
  have hs2 := (selOk 3).step (w' := W) (D' := fun x => w.heap.size < x ∧ x < w2.heap.size + 2) (fun b hb => ⟨(hD0 b hb).1, by have := (hD0 b hb).2; omega⟩) (fun b o hb => World.cell?_of_block (a := ⟨b, o, none⟩) ((Below.heap_alloc _ _ _ (by show b < X.heap.size; rw [hX]; have := (hD0 b hb).2; omega)).trans (Below.heap_alloc _ _ _ (hD0 b hb).2))) hs
  have hr1 : RowD (SelE 3) 7 W (fun x => w.heap.size < x ∧ x < w2.heap.size + 2) [wSel i k al h] (.slice (some ⟨w2.heap.size, 0, none⟩) 1 1) := row_one1 (cs := [.int .i64 1, .string AL, .string ⟨#[102]⟩, .string ⟨#[]⟩, va, vd, vs]) hx1 rfl ⟨hw, by omega⟩ hs2
  have hr2 : RowD OpE 5 W (fun x => w.heap.size < x ∧ x < w2.heap.size + 2) [⟨true, [77], [], [], [wSel i k al h]⟩] (.slice (some ⟨w2.heap.size + 1, 0, none⟩) 1 1) := row_one1 (cs := [.bool true, .string ⟨#[77]⟩, .slice none 0 0, .slice none 0 0, .slice (some ⟨w2.heap.size, 0, none⟩) 1 1]) hx2 rfl ⟨by omega, by omega⟩ ⟨(show 1 ≤ 2000000 by decide), _, _, _, rfl, .nil, .nil, 3, hr1⟩
  refine ⟨⟨_, _, rfl, hr2, .nil⟩, ?_, fun x hx => by rw [hW]; exact hx.2, (((Below.refl _ w2).alloc (Nat.le_refl _) _).alloc (by rw [hX]; omega) _), hW⟩
  have h1 : dpS 4 [wSel i k al h] = true := by
    show ([wSel i k al h].all fun x => dpS 3 x.sels) = true
    simp only [List.all_cons, List.all_nil, Bool.and_true]
    show dpS 3 (wSels h) = true
    show ((wSels h).all fun x => dpS 2 x.sels) = true
    rw [List.all_eq_true]
    intro x hx
    rw [show x = wSub from List.eq_of_mem_replicate hx]
    rfl
  show (([(⟨true, [77], [], [], [wSel i k al h]⟩ : OpT)].all fun o => dpS 4 o.sels) && (([] : List FragT).all fun f => dpS 4 f.sels)) = true
  simp only [List.all_cons, List.all_nil, Bool.and_true]
  exact h1

set_option maxHeartbeats 4000000 in
set_option maxRecDepth 100000 in
theorem printWords_walk (n1 n2 n3 : Int) (al : Bool) (w : World) (hm : ∃ m, w.cell? ⟨0, 0, none⟩ = some (.int .i64 m)) : Calls Tryz.prog 8 #[.int .i64 n1, .int .i64 n2, .bool al, .int .i64 n3] w (TrueBelow w) := by
  obtain ⟨a, ea, la⟩ := pmod_nat n1 5 (by omega)
  obtain ⟨b, eb, lb⟩ := pmod_nat n2 4 (by omega)
  obtain ⟨c, ec, lc⟩ := pmod_nat n3 4 (by omega)
  have HPa := Lib.hid (fun W => show Calls Tryz.prog 21 #[.int .i64 n1, .int .i64 5] W (fun e w' => e = .returned (.int .i64 (a : Int)) ∧ W = w') from by have := place_any n1 5 W (by omega) (by omega); rw [ea] at this; exact this)
  have HPb := Lib.hid (fun W => show Calls Tryz.prog 21 #[.int .i64 n2, .int .i64 4] W (fun e w' => e = .returned (.int .i64 (b : Int)) ∧ W = w') from by have := place_any n2 4 W (by omega) (by omega); rw [eb] at this; exact this)
  have HPc := Lib.hid (fun W => show Calls Tryz.prog 21 #[.int .i64 n3, .int .i64 4] W (fun e w' => e = .returned (.int .i64 (c : Int)) ∧ W = w') from by have := place_any n3 4 W (by omega) (by omega); rw [ec] at this; exact this)
  have ha : a < 5 := by omega
  have hb : b < 4 := by omega
  have hc : c < 4 := by omega
  have HOK := Lib.hid (words_all a b al c ha hb hc)
  have HMX := Lib.hid hm
  obtain ⟨i5, hi5, hz50, hz51, hz52⟩ := info_parts infoArg
  obtain ⟨i2, hi2, hz20, hz21, hz22⟩ := info_parts infoDirW
  obtain ⟨i7, hi7, hz70, hz71, hz72⟩ := info_parts infoSel
  clear ea eb ec la lb lc hm
  have HF0 := Lib.hid (show Fl w (w.alloc (.cells #[.int .i64 1, .string ⟨#[]⟩, .string ⟨#[102]⟩, .string ⟨#[]⟩, .slice none 0 0, .slice none 0 0, .slice none 0 0] 49)) ⟨#[]⟩ (.slice none 0 0) (.slice none 0 0) (.slice none 0 0) from ⟨heap_alloc_new _ _, (Below.refl _ w).alloc (Nat.le_refl _) _⟩)
  have HF1 := Lib.hid (show Fl w ((w.alloc (.cells #[.int .i64 1, .string ⟨#[]⟩, .string ⟨#[102]⟩, .string ⟨#[]⟩, .slice none 0 0, .slice none 0 0, .slice none 0 0] 49)).setCell ⟨w.heap.size, 1, none⟩ (.string ⟨#[120]⟩)) ⟨#[120]⟩ (.slice none 0 0) (.slice none 0 0) (.slice none 0 0) from ⟨by rw [Lib.heap_setCell_same HF0.out.s]; rfl, HF0.out.bel.setCell (p := ⟨w.heap.size, 1, none⟩) (Nat.le_refl _) _⟩)
  have HF1' := Lib.hid (show Fl w (w.alloc (.cells #[.int .i64 1, .string ⟨#[120]⟩, .string ⟨#[102]⟩, .string ⟨#[]⟩, .slice none 0 0, .slice none 0 0, .slice none 0 0] 49)) ⟨#[120]⟩ (.slice none 0 0) (.slice none 0 0) (.slice none 0 0) from ⟨heap_alloc_new _ _, (Below.refl _ w).alloc (Nat.le_refl _) _⟩)
  go_enter Tryz.func8, Tryz.ntmps8
  go_wp2_with fail
  refine (HPa.out _).mono ?_
  rintro e w' ⟨rfl, rfl⟩
  go_wp2_with fail
  refine (HPb.out _).mono ?_
  rintro e w' ⟨rfl, rfl⟩
  go_wp2_with fail
  refine (HPc.out _).mono ?_
  rintro e w' ⟨rfl, rfl⟩
  clear HPa HPb HPc
  go_upto_if 25 with fail
  go_cut [13] (fun v13 wc => ∃ S : ByteArray, v13 = .string S ∧ S.size ≤ 3 ∧ Hid (StrW (tA0 al) S) ∧ Hid (Fl w wc ⟨(wAl al).toArray⟩ (.slice none 0 0) (.slice none 0 0) (.slice none 0 0)))
  case first =>
    cases al with
    | true =>
      go_wp2_with fail
      go_meet
      case rel => exact ⟨_, rfl, by decide, Lib.hid ⟨rfl, by decide⟩, by first | exact HF1 | exact HF1'⟩
    | false =>
      go_wp2_with fail
      go_meet
      case rel => exact ⟨_, rfl, by decide, Lib.hid ⟨rfl, by decide⟩, HF0⟩
  case rest =>
    obtain ⟨S0, rfl, hz0, HS0, HFL0⟩ := hcut
    clear HF0 HF1 HF1'
    obtain ⟨AL, hALe⟩ : ∃ AL : ByteArray, AL = ⟨(wAl al).toArray⟩ := ⟨_, rfl⟩
    rw [← hALe] at HFL0
    have HALe := Lib.hid hALe
    clear hALe
    go_wp2_with fail
    go_loopg [13, 14, 15] a (fun j v13 v14 _ wr => ∃ (i : Nat) (S : ByteArray) (aL : Option Addr) (cL : Nat) (cs : List Value), v13 = .string S ∧ v14 = .int .i64 (i : Int) ∧ i ≤ a ∧ j = a - i ∧ S.size ≤ 3 + 8 * i ∧ Hid (StrW (tA0 al ++ tArgs i) S) ∧ Hid (Fl w wr AL (.slice aL i cL) (.slice none 0 0) (.slice none 0 0)) ∧ Hid (OwnR ArgE (w.heap.size + 1) 55 5 (wArgs i) cs (.slice aL i cL) wr))
    case atStart => exact ⟨0, S0, none, 0, [], rfl, rfl, Nat.zero_le _, rfl, by omega, Lib.hid (by rw [show tArgs 0 = [] from rfl, List.append_nil]; exact HS0.out), HFL0, Lib.hid .nil⟩
    case round =>
      obtain ⟨i, S, aL, cL, cs, rfl, rfl, hi, hj, hz, HS, HFL, HOW⟩ := hrel
      have hw : IntKind.i64.wrap ((i : Int) + 1) = (i : Int) + 1 := IntWalk.i64_in _ (by omega)
      by_cases hlt : i < a
      · have hd : decide ((i : Int) < (a : Int)) = true := decide_eq_true (by omega)
        have hd2 : decide (i < a) = true := decide_eq_true hlt
        have hi4 : i < 5 := by omega
        have HDG := Lib.hid (fun W => wDig_any i hi4 W)
        obtain ⟨k, OP, hmin, hidx, hOP, hOz⟩ := wOpen_args i hi4
        have HOP := Lib.hid hOP
        have hzd : (⟨[48 + UInt8.ofNat i].toArray⟩ : ByteArray).size ≤ 1 := Nat.le_refl _
        have HNM := Lib.hid (show ((⟨#[110]⟩ : ByteArray) ++ ⟨[48 + UInt8.ofNat i].toArray⟩).data.toList = wnm i by rw [ByteArray.data_append, Array.toList_append]; rfl)
        have HAE := Lib.hid (fun W D => wArg_E W D i _ HNM.out)
        have HSD := Lib.hid (show (⟨[48 + UInt8.ofNat i].toArray⟩ : ByteArray).data.toList = [48 + UInt8.ofNat i] from rfl)
        have hzn : ((⟨#[110]⟩ : ByteArray) ++ ⟨[48 + UInt8.ofNat i].toArray⟩).size ≤ 2 := by rw [ByteArray.size_append]; exact Nat.le_refl 2
        clear hOP HS0 HFL0 hz0
        generalize (⟨[48 + UInt8.ofNat i].toArray⟩ : ByteArray) = DG at *
        have hsz1 : wr.heap.size ≥ w.heap.size + 1 := (Array.getElem?_eq_some_iff.1 HFL.out.s).1
        go_wp2_with fail
        refine (HDG.out _).mono ?_
        rintro e w2 ⟨rfl, hb2, hh2, hz2⟩
        have HS2 := Lib.hid ((hh2 _).trans HFL.out.s)
        have HB2 := Lib.hid (HFL.out.bel.trans (hb2.mono HFL.out.bel.size))
        have HO2 := Lib.hid (HOW.out.keep argOk (fun b _ _ => hh2 b) hb2.size)
        have hsz2 : w2.heap.size ≥ w.heap.size + 1 := by omega
        obtain ⟨p0, p1, p2, p3, p4, p5, p6, pf, pl⟩ := bk7 HS2.out
        clear hb2 hh2 HOW HFL hz2
        go_upto_region 10 with fail
        go_region_law (first
          | (refine step_append_lies _ rfl (.tmp 36) (.tmp 42) 47 rfl (w.heap.size + 1) 55 i5 (.agg #[.string ⟨#[]⟩, .int .i64 0, .string ⟨#[]⟩, .slice none 0 0, .slice none 0 0]) 5 88 Tryz.underlying47 hi5 hz50 hz51 hz52 rfl (by decide) (.slice aL i cL) i cs (by simp [Act.eval]) HN.out.1 ⟨w3.heap.size, 0, none⟩ 1 1 [.string (⟨#[110]⟩ ++ DG), .int .i64 3, .string DG, .slice none 0 0, .slice none 0 0] (by simp [Act.eval]) rfl HPR.out HONE.out (by decide) (by unfold maxLen; omega) (by omega) HN.out.2.1 (w3.heap.size + 1) HN.out.2.2 ?_; intro g8 cap8 w8 hown8 hg8 hlie8 hl8; have HS8 := Lib.hid ((grow_old HA.out hg8 HZ3.out w.heap.size (by omega)).trans HS3.out); obtain ⟨m0, m1, m2, m3, m4, m5, m6, mf, ml⟩ := bk7 HS8.out)
          | (go_simp; (go_at_call 22); (with_reducible refine (HDG.out _).mono ?_); rintro e w3 ⟨rfl, hb3, hh3, hz3⟩; have HS3 := Lib.hid (show w3.heap[w.heap.size]? = _ from (hh3 _).trans HS2.out); obtain ⟨q0, q1, q2, q3, q4, q5, q6, qf, ql⟩ := bk7 HS3.out; have HZ3 := Lib.hid (show w.heap.size + 1 ≤ w3.heap.size from ql); have HB3 := Lib.hid (show Below w.heap.size w w3 from HB2.out.trans ((Below.drew (Below.refl _ w2)).trans (hb3.mono (show w.heap.size ≤ w2.heap.size by omega)))); have HA := Lib.hid (show OwnR ArgE (w.heap.size + 1) 55 5 (wArgs i) cs (.slice aL i cL) (w3.alloc (.cells #[.string (⟨#[110]⟩ ++ DG), .int .i64 3, .string DG, .slice none 0 0, .slice none 0 0] 55 (0, 0))) from HO2.out.keep argOk (fun b _ hl => (Below.heap_alloc _ _ _ (show b < w3.heap.size by rw [hz3]; exact hl)).trans (hh3 b)) (by have := hz3; simp; show w2.heap.size ≤ w3.heap.size + 1; have h5 : w3.heap.size = w2.heap.size := hz3; omega)); have HN := Lib.hid (show (w3.alloc (.cells #[.string (⟨#[110]⟩ ++ DG), .int .i64 3, .string DG, .slice none 0 0, .slice none 0 0] 55 (0, 0))).ownsRow (w.heap.size + 1) 55 5 (.slice aL i cL) i cs ∧ w.heap.size + 1 ≤ (w3.alloc (.cells #[.string (⟨#[110]⟩ ++ DG), .int .i64 3, .string DG, .slice none 0 0, .slice none 0 0] 55 (0, 0))).heap.size ∧ (w3.alloc (.cells #[.string (⟨#[110]⟩ ++ DG), .int .i64 3, .string DG, .slice none 0 0, .slice none 0 0] 55 (0, 0))).heap.size = w3.heap.size + 1 from ⟨by have h9 := HA.out.own; rw [wArgs_len] at h9; exact h9, by simp; omega, by simp⟩); have HPR := Lib.hid (rec_new w3 5 #[.string (⟨#[110]⟩ ++ DG), .int .i64 3, .string DG, .slice none 0 0, .slice none 0 0] 55); have HONE := Lib.hid (argOk.one (HAE.out w3 (fun _ => True))); have HSZ3 := Lib.hid hz3; clear hz3 hh3 hb3))
        all_goals
          have HX := Lib.hid (own_more (w := w) (j := 4) argOk (by omega) (wArgs_len i) HA.out (HAE.out _ _) hown8 hg8 (by rw [HN.out.2.2]; exact hlie8) (.slice (some ⟨g8, 0, none⟩) (i + 1) cap8))
          have HFL9 := Lib.hid (show Fl w (w8.setCell ⟨w.heap.size, 4, none⟩ (.slice (some ⟨g8, 0, none⟩) (i + 1) cap8)) AL (.slice (some ⟨g8, 0, none⟩) (i + 1) cap8) (.slice none 0 0) (.slice none 0 0) from ⟨by rw [Lib.heap_setCell_same HS8.out]; rfl, (HB3.out.trans (grow_bel HA.out hg8 HZ3.out (by omega))).setCell (p := ⟨w.heap.size, 4, none⟩) (Nat.le_refl _) _⟩)
          have hs1 : (S ++ OP).size ≤ 100 := by rw [ByteArray.size_append]; omega
          have hs2 : ((S ++ OP) ++ (⟨#[110]⟩ ++ DG)).size ≤ 110 := by rw [ByteArray.size_append]; omega
          have hs3 : (((S ++ OP) ++ (⟨#[110]⟩ ++ DG)) ++ ⟨#[58]⟩).size ≤ 120 := by rw [ByteArray.size_append]; exact Nat.add_le_add hs2 (show 1 ≤ 10 by decide)
          have HSW := Lib.hid (show StrW (tA0 al ++ tArgs (i + 1)) ((((S ++ OP) ++ (⟨#[110]⟩ ++ DG)) ++ ⟨#[58]⟩) ++ DG) from by
            have e : ((((S ++ OP) ++ (⟨#[110]⟩ ++ DG)) ++ ⟨#[58]⟩) ++ DG).data.toList = tA0 al ++ tArgs (i + 1) := by
              simp only [ByteArray.data_append, Array.toList_append]
              have h1 := HS.out.1
              have h2 := HOP.out
              have h3 := HNM.out
              have h4 := HSD.out
              simp only [ByteArray.data_append, Array.toList_append] at h3
              rw [h1, h2, h3, h4]
              show _ = tA0 al ++ (tArgs i ++ (tOpen 40 i ++ (wnm i ++ ([58] ++ [48 + UInt8.ofNat i]))))
              simp [List.append_assoc]
            exact ⟨e, by rw [ByteArray.size_append]; omega⟩)
          have hs4 : ((((S ++ OP) ++ (⟨#[110]⟩ ++ DG)) ++ ⟨#[58]⟩) ++ DG).size ≤ 3 + 8 * (i + 1) := by
            simp only [ByteArray.size_append] at hz hOz hzd hzn ⊢
            have : (⟨#[58]⟩ : ByteArray).size = 1 := rfl
            omega
          have HS4 := Lib.hid hs4
          clear hown8 hg8 hlie8 hl8 HA HN HPR HONE HS8 HS3 HB3 HO2 HS2 HB2 hs4 m0 m1 m2 m3 m4 m5 m6 mf ml q0 q1 q2 q3 q4 q5 q6 qf ql
          go_upto_region 11 with fail
          go_region_with ((go_at_call 22); (with_reducible refine (HDG.out _).mono ?_); rintro e w10 ⟨rfl, hb10, hh10, hz10⟩; have HB10 := Lib.hid hb10; have HH10 := Lib.hid hh10; have HZ10 := Lib.hid hz10; clear hb10 hh10 hz10)
          all_goals
            have HFLa := Lib.hid (show Fl w w10 AL (.slice (some ⟨g8, 0, none⟩) (i + 1) cap8) (.slice none 0 0) (.slice none 0 0) from ⟨(HH10.out _).trans HFL9.out.s, HFL9.out.bel.trans ((Below.drew (Below.refl _ _)).trans (HB10.out.mono HFL9.out.bel.size))⟩)
            have HOWa := Lib.hid (HX.out.keep argOk (fun b _ _ => HH10.out b) (show _ ≤ w10.heap.size from Nat.le_of_eq HZ10.out.symm))
            rw [← wArgs_snoc] at HOWa
            go_wp2_with fail
            go_roundg (a - (i + 1))
            case measure => omega
            case rel => exact ⟨i + 1, _, _, _, _, rfl, by simp, by omega, rfl, HS4.out, HSW, HFLa, HOWa⟩
      · have hd : decide ((i : Int) < (a : Int)) = false := decide_eq_false (by omega)
        have hd2 : decide (i < a) = false := decide_eq_false hlt
        obtain rfl : i = a := by omega
        have HOKa := Lib.hid HOW.out
        clear HS0 HFL0 hz0
        have hcz : i ≤ cL := (HOW.out.done argOk (by rw [wArgs_len]; omega)).capLe (wArgs_len i)
        have HRA := Lib.hid (show RowD ArgE 5 wr (fun b => w.heap.size < b ∧ b < wr.heap.size) (wArgs i) (.slice aL i cL) from by
          have h1 := HOW.out.done argOk (by rw [wArgs_len]; omega)
          exact RowD.step argOk (fun b hb => ⟨by have := hb.1; omega, hb.2⟩) (fun _ _ _ => rfl) h1)
        clear HOW HOKa
        go_upto_if 58 with fail
        go_cut [13] (fun v13 wc => ∃ S : ByteArray, v13 = .string S ∧ S.size ≤ 50 ∧ Hid (StrW ((tA0 al ++ tArgs i) ++ tEnd 41 i) S) ∧ Hid (Fl w wc AL (.slice aL i cL) (.slice none 0 0) (.slice none 0 0)) ∧ Hid (RowD ArgE 5 wc (fun b => w.heap.size < b ∧ b < wc.heap.size) (wArgs i) (.slice aL i cL)))
        case first =>
          by_cases h0 : i = 0
          · have hp0 : decide ((0 : Int) < (i : Int)) = false := decide_eq_false (by omega)
            have hp1 : decide (0 < i) = false := decide_eq_false (by omega)
            have hp2 : ¬ 0 < i := by omega
            have HE := Lib.hid (show tEnd 41 i = [] by unfold tEnd; rw [if_pos h0])
            clear h0
            go_wp2_with fail
            go_meet
            case rel => exact ⟨S, rfl, by omega, Lib.hid (by rw [HE.out, List.append_nil]; exact HS.out), HFL, HRA⟩
          · have hp0 : decide ((0 : Int) < (i : Int)) = true := decide_eq_true (by omega)
            have hp1 : decide (0 < i) = true := decide_eq_true (by omega)
            have hp2 : 0 < i := by omega
            have HE := Lib.hid (show tEnd 41 i = [41] by unfold tEnd; rw [if_neg h0])
            have hs1 : (S ++ ⟨#[41]⟩).size ≤ 50 := by rw [ByteArray.size_append]; exact Nat.add_le_add (show S.size ≤ 43 by omega) (show 1 ≤ 7 by decide)
            have HS1 := Lib.hid hs1
            clear h0 hs1
            go_wp2_with fail
            go_meet
            case rel => exact ⟨_, rfl, HS1.out, Lib.hid (strW_add HS.out (by rw [HE.out]) (by rw [← HS.out.1, HE.out, List.length_append]; show S.size + 1 ≤ 300; omega)), HFL, HRA⟩
        case rest =>
          obtain ⟨S1, rfl, hz1, HS1, HFL1, HRA1⟩ := hcut
          clear HS HFL HRA hz hd hd2 hlt hj hi hw
          obtain ⟨XA, hXA⟩ : ∃ XA, XA = wArgs i := ⟨_, rfl⟩
          rw [← hXA] at HRA1
          have HXA := Lib.hid hXA.symm
          clear hXA
          obtain ⟨X1, hX1⟩ : ∃ X1, X1 = (tA0 al ++ tArgs i) ++ tEnd 41 i := ⟨_, rfl⟩
          rw [← hX1] at HS1
          have HX1 := Lib.hid hX1.symm
          clear hX1
          obtain ⟨B2, hB2⟩ : ∃ B2, B2 = wc.heap.size := ⟨_, rfl⟩
          rw [← hB2] at HRA1
          have HB2 := Lib.hid hB2
          have hwB : w.heap.size < B2 := by rw [hB2]; exact (Array.getElem?_eq_some_iff.1 HFL1.out.s).1
          clear hB2
          go_wp2_with fail
          go_loopg [13, 16] b (fun j v13 v16 wr => ∃ (k : Nat) (S : ByteArray) (aD : Option Addr) (cD : Nat) (ds : List Value), v13 = .string S ∧ v16 = .int .i64 (k : Int) ∧ k ≤ b ∧ j = b - k ∧ S.size ≤ 50 + 9 * k ∧ Hid (StrW (X1 ++ tDirs k) S) ∧ Hid (Fl w wr AL (.slice aL i cL) (.slice aD k cD) (.slice none 0 0)) ∧ Hid (OwnR DirE B2 67 2 (wDirs k) ds (.slice aD k cD) wr) ∧ Hid (RowD ArgE 5 wr (fun b => w.heap.size < b ∧ b < B2) XA (.slice aL i cL)) ∧ Hid (B2 ≤ wr.heap.size))
          case atStart => exact ⟨0, S1, none, 0, [], rfl, rfl, Nat.zero_le _, rfl, by omega, Lib.hid (by rw [show tDirs 0 = [] from rfl, List.append_nil]; exact HS1.out), HFL1, Lib.hid .nil, HRA1, Lib.hid (Nat.le_of_eq HB2.out)⟩
          case round =>
            obtain ⟨k, S, aD, cD, ds, rfl, rfl, hk, hj, hz, HS, HFL, HOW, HRA, HBW⟩ := hrel
            have hw : IntKind.i64.wrap ((k : Int) + 1) = (k : Int) + 1 := IntWalk.i64_in _ (by omega)
            by_cases hlt : k < b
            · have hd : decide ((k : Int) < (b : Int)) = true := decide_eq_true (by omega)
              have hd2 : decide (k < b) = true := decide_eq_true hlt
              have hBW := HBW.out
              obtain ⟨p0, p1, p2, p3, p4, p5, p6, pf, pl⟩ := bk7 HFL.out.s
              have HDK := Lib.hid (dir_made (B := B2) (wr := wr) (w := w) HOW.out HBW.out hwB)
              have hs1 : (S ++ ⟨#[64, 100, 40, 105, 102, 58, 36, 118, 41]⟩).size ≤ 50 + 9 * (k + 1) := by rw [ByteArray.size_append]; exact Nat.le_trans (Nat.add_le_add hz (show 9 ≤ 9 by decide)) (by omega)
              have HSZ := Lib.hid hs1
              have HSW := Lib.hid (show StrW (X1 ++ tDirs (k + 1)) (S ++ ⟨#[64, 100, 40, 105, 102, 58, 36, 118, 41]⟩) from by
                have h1 := strW_add (Y := [64, 100, 40, 105, 102, 58, 36, 118, 41]) HS.out (T := ⟨#[64, 100, 40, 105, 102, 58, 36, 118, 41]⟩) rfl (by rw [← HS.out.1, List.length_append]; show S.size + 9 ≤ 300; omega)
                rw [List.append_assoc] at h1
                exact h1)
              have HBELW := Lib.hid HFL.out.bel
              have hwd : (wDirs k).length = k := by simp [wDirs]
              have HWD := Lib.hid hwd
              clear HS hwd
              go_wp2_with (at_builtin; refine wpList_append_lies _ rfl _ _ 42 rfl B2 67 i2 (.agg #[.string ⟨#[]⟩, .slice none 0 0]) 2 40 Tryz.underlying42 hi2 hz20 hz21 hz22 rfl (by decide) (.slice aD k cD) k ds rfl HDK.out.2.1 ⟨wr.heap.size + 1, 0, none⟩ 1 1 [.string ⟨#[100]⟩, .slice (some ⟨wr.heap.size, 0, none⟩) 1 1] rfl rfl HDK.out.2.2.1 HDK.out.2.2.2.1 (by decide) (by unfold maxLen; omega) (by omega) HDK.out.2.2.2.2.1 (wr.heap.size + 2) HDK.out.2.2.2.2.2.1 ?_)
              intro g8 cap8 w8 hown8 hg8 hlie8 hl8
              have HX := Lib.hid (own_more (w := w) (j := 5) dirOk hwB HWD.out HDK.out.1 HDK.out.2.2.2.2.2.2 hown8 hg8 (by rw [HDK.out.2.2.2.2.2.1]; exact hlie8) (.slice (some ⟨g8, 0, none⟩) (k + 1) cap8))
              have hX1 : B2 ≤ (wr.alloc (.cells #[.string ⟨#[105, 102]⟩, .int .i64 9, .string ⟨#[118]⟩, .slice none 0 0, .slice none 0 0] 55 (0, 0))).heap.size := by simp; omega
              have hG := Lib.hid (fun b hb => (grow_old HDK.out.1 hg8 hX1 b hb).trans (Below.heap_alloc wr (.cells #[.string ⟨#[105, 102]⟩, .int .i64 9, .string ⟨#[118]⟩, .slice none 0 0, .slice none 0 0] 55 (0, 0)) b (by omega)))
              have HS8 := Lib.hid ((hG.out w.heap.size hwB).trans HFL.out.s)
              have HFL9 := Lib.hid (show Fl w (w8.setCell ⟨w.heap.size, 5, none⟩ (.slice (some ⟨g8, 0, none⟩) (k + 1) cap8)) AL (.slice aL i cL) (.slice (some ⟨g8, 0, none⟩) (k + 1) cap8) (.slice none 0 0) from ⟨by rw [Lib.heap_setCell_same HS8.out]; rfl, ((HFL.out.bel.alloc HFL.out.bel.size _).trans (grow_bel (n := w.heap.size) HDK.out.1 hg8 hX1 (by omega))).setCell (p := ⟨w.heap.size, 5, none⟩) (Nat.le_refl _) _⟩)
              have HRA9 := Lib.hid (HRA.out.stay argOk (W' := w8.setCell ⟨w.heap.size, 5, none⟩ (.slice (some ⟨g8, 0, none⟩) (k + 1) cap8)) (fun b hb hne => (Below.heap_setCell _ _ _ _ hne).trans (hG.out b hb)))
              have HBW9 := Lib.hid (show B2 ≤ (w8.setCell ⟨w.heap.size, 5, none⟩ (.slice (some ⟨g8, 0, none⟩) (k + 1) cap8)).heap.size by have h5 := hg8.size; have h6 := HDK.out.2.2.2.2.1; simp only [World.setCell, Array.size_modify]; exact Nat.le_trans h6 h5)
              rw [show wDirs k ++ [wDir] = wDirs (k + 1) from (rep_snoc k wDir).symm] at HX
              obtain ⟨m0, m1, m2, m3, m4, m5, m6, mf, ml⟩ := bk7 HS8.out
              clear hown8 hg8 hlie8 hl8 HDK hG HS8 HFL HOW HRA HBW hBW hX1 p0 p1 p2 p3 p4 p5 p6 pf pl
              go_wp2_with fail
              go_roundg (b - (k + 1))
              case measure => omega
              case rel => exact ⟨k + 1, _, _, _, _, rfl, by simp, by omega, rfl, HSZ.out, HSW, HFL9, HX, HRA9, HBW9⟩
            · have hd : decide ((k : Int) < (b : Int)) = false := decide_eq_false (by omega)
              have hd2 : decide (k < b) = false := decide_eq_false hlt
              obtain rfl : k = b := by omega
              have HRD := Lib.hid (show RowD DirE 2 wr (fun b => w.heap.size < b ∧ b < wr.heap.size) (wDirs k) (.slice aD k cD) from by
                have h1 := HOW.out.done dirOk (by simp [wDirs]; omega)
                exact RowD.step dirOk (fun b hb => ⟨by have := hb.1; omega, hb.2⟩) (fun _ _ _ => rfl) h1)
              have HRA2 := Lib.hid (show RowD ArgE 5 wr (fun b => w.heap.size < b ∧ b < wr.heap.size) XA (.slice aL i cL) from RowD.step argOk (fun b hb => ⟨hb.1, by have := hb.2; have := HBW.out; omega⟩) (fun _ _ _ => rfl) HRA.out)
              have hcd : k ≤ cD := HRD.out.capLe (by simp [wDirs])
              have HFL2 := HFL
              have HS2 := HS
              have hz2 : S.size ≤ 77 := by omega
              clear HFL HOW HRA HBW HS HFL1 HRA1 HS1 hz hz1
              obtain ⟨XD, hXD⟩ : ∃ XD, XD = wDirs k := ⟨_, rfl⟩
              rw [← hXD] at HRD
              have HXD := Lib.hid hXD.symm
              clear hXD
              obtain ⟨X2, hX2⟩ : ∃ X2, X2 = X1 ++ tDirs k := ⟨_, rfl⟩
              rw [← hX2] at HS2
              have HX2 := Lib.hid hX2.symm
              clear hX2
              obtain ⟨B3, hB3⟩ : ∃ B3, B3 = wr.heap.size := ⟨_, rfl⟩
              rw [← hB3] at HRA2 HRD
              have HB3 := Lib.hid hB3
              have hwB3 : w.heap.size < B3 := by rw [hB3]; exact (Array.getElem?_eq_some_iff.1 HFL2.out.s).1
              clear hB3 hd hd2 hlt hj hk hw
              go_wp2_with fail
              go_loopg [13, 17] c (fun j v13 v17 wr => ∃ (h : Nat) (S : ByteArray) (aS : Option Addr) (cS : Nat) (ss : List Value), v13 = .string S ∧ v17 = .int .i64 (h : Int) ∧ h ≤ c ∧ j = c - h ∧ S.size ≤ 77 + 14 * h ∧ Hid (StrW (X2 ++ tSels h) S) ∧ Hid (Fl w wr AL (.slice aL i cL) (.slice aD k cD) (.slice aS h cS)) ∧ Hid (OwnR (SelE 2) B3 49 7 (wSels h) ss (.slice aS h cS) wr) ∧ Hid (RowD ArgE 5 wr (fun b => w.heap.size < b ∧ b < B3) XA (.slice aL i cL)) ∧ Hid (RowD DirE 2 wr (fun b => w.heap.size < b ∧ b < B3) XD (.slice aD k cD)) ∧ Hid (B3 ≤ wr.heap.size))
              case atStart => exact ⟨0, S, none, 0, [], rfl, rfl, Nat.zero_le _, rfl, by omega, Lib.hid (by rw [show tSels 0 = [] from rfl, List.append_nil]; exact HS2.out), HFL2, Lib.hid .nil, HRA2, HRD, Lib.hid (Nat.le_of_eq HB3.out)⟩
              case round =>
                obtain ⟨h, S, aS, cS, ss, rfl, rfl, hh, hj, hz, HS, HFL, HOW, HRA, HRDD, HBW⟩ := hrel
                have hw : IntKind.i64.wrap ((h : Int) + 1) = (h : Int) + 1 := IntWalk.i64_in _ (by omega)
                by_cases hlt : h < c
                · have hd : decide ((h : Int) < (c : Int)) = true := decide_eq_true (by omega)
                  have hd2 : decide (h < c) = true := decide_eq_true hlt
                  have hBW := HBW.out
                  obtain ⟨kk, OP, hmin, hidx, hOP, hOz⟩ := wOpen_sels h (by omega)
                  obtain ⟨p0, p1, p2, p3, p4, p5, p6, pf, pl⟩ := bk7 HFL.out.s
                  have HDK := Lib.hid (sel_made (B := B3) (wr := wr) (w := w) HOW.out HBW.out hwB3)
                  have hs0 : (S ++ OP).size ≤ 78 + 14 * h := by rw [ByteArray.size_append]; omega
                  have hs1 : ((S ++ OP) ++ ⟨#[46, 46, 46, 111, 110, 32, 84, 123, 46, 46, 46, 70, 125]⟩).size ≤ 77 + 14 * (h + 1) := by rw [ByteArray.size_append]; exact Nat.le_trans (Nat.add_le_add hs0 (show 13 ≤ 13 by decide)) (by omega)
                  have HSZ := Lib.hid hs1
                  have HSW := Lib.hid (show StrW (X2 ++ tSels (h + 1)) ((S ++ OP) ++ ⟨#[46, 46, 46, 111, 110, 32, 84, 123, 46, 46, 46, 70, 125]⟩) from by
                    have e : ((S ++ OP) ++ ⟨#[46, 46, 46, 111, 110, 32, 84, 123, 46, 46, 46, 70, 125]⟩ : ByteArray).data.toList = X2 ++ tSels (h + 1) := by
                      rw [ByteArray.data_append, Array.toList_append, ByteArray.data_append, Array.toList_append, HS.out.1, hOP]
                      show _ = X2 ++ (tSels h ++ (tOpen 123 h ++ [46, 46, 46, 111, 110, 32, 84, 123, 46, 46, 46, 70, 125]))
                      simp [List.append_assoc]
                    exact ⟨e, by omega⟩)
                  have HWD := Lib.hid (show (wSels h).length = h by simp [wSels])
                  clear HS hOP
                  go_wp2_with (at_builtin; refine wpList_append_lies _ rfl _ _ 43 rfl B3 49 i7 (.agg #[.int .i64 0, .string ⟨#[]⟩, .string ⟨#[]⟩, .string ⟨#[]⟩, .slice none 0 0, .slice none 0 0, .slice none 0 0]) 7 128 Tryz.underlying43 hi7 hz70 hz71 hz72 rfl (by decide) (.slice aS h cS) h ss rfl HDK.out.2.1 ⟨wr.heap.size + 1, 0, none⟩ 1 1 [.int .i64 3, .string ⟨#[]⟩, .string ⟨#[]⟩, .string ⟨#[84]⟩, .slice none 0 0, .slice none 0 0, .slice (some ⟨wr.heap.size, 0, none⟩) 1 1] rfl rfl HDK.out.2.2.1 HDK.out.2.2.2.1 (by decide) (by unfold maxLen; omega) (by omega) HDK.out.2.2.2.2.1 (wr.heap.size + 2) HDK.out.2.2.2.2.2.1 ?_)
                  intro g8 cap8 w8 hown8 hg8 hlie8 hl8
                  have HX := Lib.hid (own_more (w := w) (j := 6) (selOk 2) hwB3 HWD.out HDK.out.1 HDK.out.2.2.2.2.2.2 hown8 hg8 (by rw [HDK.out.2.2.2.2.2.1]; exact hlie8) (.slice (some ⟨g8, 0, none⟩) (h + 1) cap8))
                  have hX1 : B3 ≤ (wr.alloc (.cells #[.int .i64 2, .string ⟨#[]⟩, .string ⟨#[70]⟩, .string ⟨#[]⟩, .slice none 0 0, .slice none 0 0, .slice none 0 0] 49 (0, 0))).heap.size := by simp; omega
                  have hG := Lib.hid (fun b hb => (grow_old HDK.out.1 hg8 hX1 b hb).trans (Below.heap_alloc wr (.cells #[.int .i64 2, .string ⟨#[]⟩, .string ⟨#[70]⟩, .string ⟨#[]⟩, .slice none 0 0, .slice none 0 0, .slice none 0 0] 49 (0, 0)) b (by omega)))
                  have HS8 := Lib.hid ((hG.out w.heap.size hwB3).trans HFL.out.s)
                  have HFL9 := Lib.hid (show Fl w (w8.setCell ⟨w.heap.size, 6, none⟩ (.slice (some ⟨g8, 0, none⟩) (h + 1) cap8)) AL (.slice aL i cL) (.slice aD k cD) (.slice (some ⟨g8, 0, none⟩) (h + 1) cap8) from ⟨by rw [Lib.heap_setCell_same HS8.out]; rfl, ((HFL.out.bel.alloc HFL.out.bel.size _).trans (grow_bel (n := w.heap.size) HDK.out.1 hg8 hX1 (by omega))).setCell (p := ⟨w.heap.size, 6, none⟩) (Nat.le_refl _) _⟩)
                  have HRA9 := Lib.hid (HRA.out.stay argOk (W' := w8.setCell ⟨w.heap.size, 6, none⟩ (.slice (some ⟨g8, 0, none⟩) (h + 1) cap8)) (fun b hb hne => (Below.heap_setCell _ _ _ _ hne).trans (hG.out b hb)))
                  have HRD9 := Lib.hid (HRDD.out.stay dirOk (W' := w8.setCell ⟨w.heap.size, 6, none⟩ (.slice (some ⟨g8, 0, none⟩) (h + 1) cap8)) (fun b hb hne => (Below.heap_setCell _ _ _ _ hne).trans (hG.out b hb)))
                  have HBW9 := Lib.hid (show B3 ≤ (w8.setCell ⟨w.heap.size, 6, none⟩ (.slice (some ⟨g8, 0, none⟩) (h + 1) cap8)).heap.size by have h5 := hg8.size; have h6 := HDK.out.2.2.2.2.1; simp only [World.setCell, Array.size_modify]; exact Nat.le_trans h6 h5)
                  rw [show wSels h ++ [wSub] = wSels (h + 1) from (rep_snoc h wSub).symm] at HX
                  obtain ⟨m0, m1, m2, m3, m4, m5, m6, mf, ml⟩ := bk7 HS8.out
                  clear hown8 hg8 hlie8 hl8 HDK hG HS8 HFL HOW HRA HRDD HBW hBW hX1 p0 p1 p2 p3 p4 p5 p6 pf pl
                  go_wp2_with fail
                  go_roundg (c - (h + 1))
                  case measure => omega
                  case rel => exact ⟨h + 1, _, _, _, _, rfl, by simp, by omega, rfl, HSZ.out, HSW, HFL9, HX, HRA9, HRD9, HBW9⟩
                · have hd : decide ((h : Int) < (c : Int)) = false := decide_eq_false (by omega)
                  have hd2 : decide (h < c) = false := decide_eq_false hlt
                  obtain rfl : h = c := by omega
                  have HRS := Lib.hid (show RowD (SelE 2) 7 wr (fun b => w.heap.size < b ∧ b < wr.heap.size) (wSels h) (.slice aS h cS) from by
                    have h1 := HOW.out.done (selOk 2) (by simp [wSels]; omega)
                    exact RowD.step (selOk 2) (fun b hb => ⟨by have := hb.1; omega, hb.2⟩) (fun _ _ _ => rfl) h1)
                  have HRA3 := Lib.hid (show RowD ArgE 5 wr (fun b => w.heap.size < b ∧ b < wr.heap.size) XA (.slice aL i cL) from RowD.step argOk (fun b hb => ⟨hb.1, by have := hb.2; have := HBW.out; omega⟩) (fun _ _ _ => rfl) HRA.out)
                  have HRD3 := Lib.hid (show RowD DirE 2 wr (fun b => w.heap.size < b ∧ b < wr.heap.size) XD (.slice aD k cD) from RowD.step dirOk (fun b hb => ⟨hb.1, by have := hb.2; have := HBW.out; omega⟩) (fun _ _ _ => rfl) HRDD.out)
                  clear HOW HRA HRDD HBW HRA2 HRD HFL2 HS2
                  go_upto_if 98 with fail
                  go_cut [13] (fun v13 wc => ∃ S : ByteArray, v13 = .string S ∧ S.size ≤ 140 ∧ Hid (StrW ((X2 ++ tSels h) ++ tEnd 125 h) S) ∧ Hid (Fl w wc AL (.slice aL i cL) (.slice aD k cD) (.slice aS h cS)) ∧ Hid (RowD ArgE 5 wc (fun b => w.heap.size < b ∧ b < wc.heap.size) XA (.slice aL i cL)) ∧ Hid (RowD DirE 2 wc (fun b => w.heap.size < b ∧ b < wc.heap.size) XD (.slice aD k cD)) ∧ Hid (RowD (SelE 2) 7 wc (fun b => w.heap.size < b ∧ b < wc.heap.size) (wSels h) (.slice aS h cS)))
                  case first =>
                    by_cases h0 : h = 0
                    · have hp0 : decide ((0 : Int) < (h : Int)) = false := decide_eq_false (by omega)
                      have hp1 : decide (0 < h) = false := decide_eq_false (by omega)
                      have hp2 : ¬ 0 < h := by omega
                      have HE := Lib.hid (show tEnd 125 h = [] by unfold tEnd; rw [if_pos h0])
                      clear h0
                      go_wp2_with fail
                      go_meet
                      case rel => exact ⟨S, rfl, by omega, Lib.hid (by rw [HE.out, List.append_nil]; exact HS.out), HFL, HRA3, HRD3, HRS⟩
                    · have hp0 : decide ((0 : Int) < (h : Int)) = true := decide_eq_true (by omega)
                      have hp1 : decide (0 < h) = true := decide_eq_true (by omega)
                      have hp2 : 0 < h := by omega
                      have HE := Lib.hid (show tEnd 125 h = [125] by unfold tEnd; rw [if_neg h0])
                      have hs1 : (S ++ ⟨#[125]⟩).size ≤ 140 := by rw [ByteArray.size_append]; exact Nat.add_le_add (show S.size ≤ 133 by omega) (show 1 ≤ 7 by decide)
                      have HS1 := Lib.hid hs1
                      clear h0 hs1
                      go_wp2_with fail
                      go_meet
                      case rel => exact ⟨_, rfl, HS1.out, Lib.hid (strW_add HS.out (by rw [HE.out]) (by rw [← HS.out.1, HE.out, List.length_append]; show S.size + 1 ≤ 300; omega)), HFL, HRA3, HRD3, HRS⟩
                  case rest =>
                    obtain ⟨S9, rfl, hz9, HS9, HFL9, HRA9, HRD9, HRS9⟩ := hcut
                    clear HS HFL HRA3 HRD3 HRS hz hd hd2 hlt hj hh hw
                    have hsel := Lib.hid (show SelE 3 wc (fun b => w.heap.size < b ∧ b < wc.heap.size) (wSel i k al h) [.int .i64 1, .string AL, .string ⟨#[102]⟩, .string ⟨#[]⟩, .slice aL i cL, .slice aD k cD, .slice aS h cS] from by
                      rw [HALe.out]
                      refine ⟨⟨?_, (show 1 ≤ 2000000 by decide), (show 0 ≤ 2000000 by decide)⟩, _, _, _, rfl, ?_, ?_, ?_⟩
                      · cases al
                        · exact (show 0 ≤ 2000000 by decide)
                        · exact (show 1 ≤ 2000000 by decide)
                      · rw [show (wSel i k al h).args = XA from HXA.out]; exact HRA9.out
                      · rw [show (wSel i k al h).dirs = XD from HXD.out]; exact HRD9.out
                      · exact HRS9.out)
                    have HTX := Lib.hid (show S9.data.toList = wT i k al h from by rw [HS9.out.1, ← HX2.out, ← HX1.out]; rfl)
                    obtain ⟨p0, p1, p2, p3, p4, p5, p6, pf, pl⟩ := bk7 HFL9.out.s
                    have HB1 := Lib.hid (HFL9.out.bel.alloc HFL9.out.bel.size (.cells #[.int .i64 1, .string AL, .string ⟨#[102]⟩, .string ⟨#[]⟩, .slice aL i cL, .slice aD k cD, .slice aS h cS] 49))
                    have HR1 := Lib.hid (show RowD (SelE 3) 7 (wc.alloc (.cells #[.int .i64 1, .string AL, .string ⟨#[102]⟩, .string ⟨#[]⟩, .slice aL i cL, .slice aD k cD, .slice aS h cS] 49)) (fun b => w.heap.size < b ∧ b < wc.heap.size + 1) [wSel i k al h] (.slice (some ⟨wc.heap.size, 0, none⟩) 1 1) from row_one1 (cs := [.int .i64 1, .string AL, .string ⟨#[102]⟩, .string ⟨#[]⟩, .slice aL i cL, .slice aD k cD, .slice aS h cS]) (heap_alloc_new _ _) rfl ⟨pl, by omega⟩ ((selOk 3).step (fun b hb => ⟨hb.1, by have := hb.2; omega⟩) (fun b o hb => World.cell?_of_block (a := ⟨b, o, none⟩) (Below.heap_alloc _ _ _ hb.2)) hsel.out))
                    have HC := printSels_any (n := 3) _ (by decide) HR1.out (fun b hb => by have := hb.2; simp; omega) (at_maxlen HMX.out HB1.out) HOK.out.short
                    rw [HOK.out.sels] at HC
                    have hzz : ((⟨#[123]⟩ : ByteArray) ++ S9).size ≤ 141 := by rw [ByteArray.size_append]; exact Nat.add_le_add (show 1 ≤ 1 by decide) hz9
                    have HEQ := Lib.hid (show (⟨((123 :: wT i k al h) ++ [125]).toArray⟩ : ByteArray) = (⟨#[123]⟩ ++ S9) ++ ⟨#[125]⟩ from by
                      apply ByteArray.ext
                      rw [ByteArray.data_append, ByteArray.data_append]
                      apply Array.toList_inj.1
                      rw [Array.toList_append, Array.toList_append, HTX.out]
                      rfl)
                    have HC : Calls Tryz.prog 20 _ _ (fun e w' => e = .returned (.string ⟨((123 :: wT i k al h) ++ [125]).toArray⟩) ∧ Below (wc.alloc (.cells #[.int .i64 1, .string AL, .string ⟨#[102]⟩, .string ⟨#[]⟩, .slice aL i cL, .slice aD k cD, .slice aS h cS] 49)).heap.size (wc.alloc (.cells #[.int .i64 1, .string AL, .string ⟨#[102]⟩, .string ⟨#[]⟩, .slice aL i cL, .slice aD k cD, .slice aS h cS] 49)) w') := HC
                    generalize (⟨((123 :: wT i k al h) ++ [125]).toArray⟩ : ByteArray) = RS at *
                    have e1 : (RS.toList == (((⟨#[123]⟩ : ByteArray) ++ S9) ++ ⟨#[125]⟩).toList) = true := tl_eq HEQ.out
                    go_wp2_with fail
                    refine HC.mono ?_
                    rintro e w2 ⟨rfl, hb2⟩
                    have HB2' := Lib.hid (HB1.out.trans (hb2.mono (by simp; omega)))
                    have hz2 : wc.heap.size + 1 ≤ w2.heap.size := by have := hb2.size; simp at this; exact this
                    have HK2 := Lib.hid (fun b (hl : b < wc.heap.size) => (hb2.block b (by simp; omega)).trans (Below.heap_alloc wc (.cells #[.int .i64 1, .string AL, .string ⟨#[102]⟩, .string ⟨#[]⟩, .slice aL i cL, .slice aD k cD, .slice aS h cS] 49) b hl))
                    have HS2' := Lib.hid ((HK2.out w.heap.size pl).trans HFL9.out.s)
                    clear hb2 HC p0 p1 p2 p3 p4 p5 p6 pf HR1
                    obtain ⟨p0, p1, p2, p3, p4, p5, p6, pf, pl2⟩ := bk7 HS2'.out
                    have HDOC := Lib.hid (words_doc (w := w) (w2 := w2) (D0 := fun b => w.heap.size < b ∧ b < wc.heap.size) (fun b hb => ⟨hb.1, by have := hb.2; omega⟩) ((selOk 3).step (fun _ h => h) (fun b o hb => World.cell?_of_block (a := ⟨b, o, none⟩) (HK2.out b hb.2)) hsel.out) (by omega))
                    have HC := printDoc_any (n := 4) _ (by decide) HDOC.out.1 HDOC.out.2.1 HDOC.out.2.2.1 (at_maxlen HMX.out (HB2'.out.trans (HDOC.out.2.2.2.1.mono (by omega)))) HOK.out.small
                    have HBD := Lib.hid HDOC.out.2.2.2
                    have hy1 : ((⟨#[109, 117, 116, 97, 116, 105, 111, 110, 32, 77, 123]⟩ : ByteArray) ++ S9).size ≤ 151 := by rw [ByteArray.size_append]; exact Nat.add_le_add (show 11 ≤ 11 by decide) hz9
                    clear HDOC
                    go_wp2_with fail
                    refine HC.mono ?_
                    rintro e w4 ⟨s, rfl, hs, hb4⟩
                    have HEQ2 := Lib.hid (show (⟨s.toArray⟩ : ByteArray) = (⟨#[109, 117, 116, 97, 116, 105, 111, 110, 32, 77, 123]⟩ ++ S9) ++ ⟨#[125]⟩ from by
                      rw [hs.1 HOK.out.par, HOK.out.doc]
                      apply ByteArray.ext
                      rw [ByteArray.data_append, ByteArray.data_append]
                      apply Array.toList_inj.1
                      rw [Array.toList_append, Array.toList_append, HTX.out])
                    generalize (⟨s.toArray⟩ : ByteArray) = RD at *
                    have e2 : (RD.toList == (((⟨#[109, 117, 116, 97, 116, 105, 111, 110, 32, 77, 123]⟩ : ByteArray) ++ S9) ++ ⟨#[125]⟩).toList) = true := tl_eq HEQ2.out
                    have HB4 := Lib.hid ((HB2'.out.trans (HBD.out.1.mono (by omega))).trans (hb4.mono (by have := HBD.out.2; omega)))
                    have HA := printAwake w4 (at_maxlen HMX.out HB4.out)
                    clear hs hb4 HC
                    go_wp2_with fail
                    refine HA.mono ?_
                    rintro e w5 ⟨rfl, hb5⟩
                    have HB5 := Lib.hid (HB4.out.trans (hb5.mono HB4.out.size))
                    clear hb5 HA
                    go_wp2_with fail
                    go_ret
                    exact ⟨rfl, HB5.out⟩
end Go.Proofs.YtkfllppggjhhmaaGreatDoor
