/-
  sdl.Parse.
-/
import Derived.Test.YtkahnlgedacppaaGreatDoorMSx7
import Derived.Test.YtkahnlgedacppaaGreatDoorMLx3
import Derived.Test.YtkahnlgedacppaaGreatDoorMDm
namespace Go.Proofs.YtkahnlgedacppaaGreatDoor
open Go.RowKit Go.Maps Go.WideMaps

/-- What Parse answers: the schema in new memory, the place, the error. -/
def SParseIs (w : World) (r : SchT × Nat × Nat) (e : Ending) (w' : World) : Prop :=
  ∃ vt, e = .returned (.tuple #[.agg #[.string ⟨r.1.qu.toArray⟩, .string ⟨r.1.mu.toArray⟩, vt], .int .i64 (r.2.1 : Int), .int .i64 (r.2.2 : Int)]) ∧ RowD TypE 5 w' (fun b => w.heap.size ≤ b ∧ b < w'.heap.size) r.1.types vt ∧ Below w.heap.size w w'
def scB : Obj := .cells #[.string ⟨#[]⟩, .string ⟨#[]⟩, .slice none 0 0] 30
theorem below_3 {w W : World} (h : Below w.heap.size w W) (u v x : Value) : Below w.heap.size w (((W.setCell ⟨w.heap.size, 0, none⟩ u).setCell ⟨w.heap.size, 1, none⟩ v).setCell ⟨w.heap.size, 2, none⟩ x) := ((h.setCell (p := ⟨w.heap.size, 0, none⟩) (Nat.le_refl _) u).setCell (p := ⟨w.heap.size, 1, none⟩) (Nat.le_refl _) v).setCell (p := ⟨w.heap.size, 2, none⟩) (Nat.le_refl _) x

/-- The state at the first definition. -/
theorem sx_start {w W W1 : World} {a : Option Addr} {cap : Nat} {ts : List Tk} {z R : Nat} (hb : W.heap[R]? = some (.cells #[.slice a ts.length cap, .int .i64 0, .int .i64 (z : Int), .int .i64 0, .int .i64 0] 155 (0, 0))) (ha : a = none ∨ ∃ g, a = some ⟨g, 0, none⟩) (ht : TkAt W a ts) (hc : ts.length ≤ cap) (hs : ts.length ≤ 8000) (hz : z ≤ 8000) (hsz : ∀ t ∈ ts, t.s.length ≤ 1000000) (hg : 0 < ts.length → ∀ g o, a = some ⟨g, o, none⟩ → g ≠ R)
    (hev : EvOk w) (hw : Below w.heap.size w W) (hR : w.heap.size ≤ R) (hint : ∀ t ∈ ts, (!(t.k == 2) || intOk t.s) = true)
    (hb1 : Below W.heap.size W W1) (hq1 : W1.heap[W.heap.size]? = some (sdO R schZ (.slice none 0 0) (W.heap.size + 1))) (hm1 : W1.ownsMap Tryz.prog 9 (fnR W.heap.size) (W.heap.size + 1) 7 (mapD true)) (hz1 : W.heap.size + 2 ≤ W1.heap.size) :
    ∃ B : SdB, B.c.R = R ∧ B.c.Q = W.heap.size ∧ B.c.z = z ∧ B.n = w.heap.size ∧ Sx B true schZ ⟨ts, 0, 0⟩ (.slice none 0 0) [] W1 := by
  have hN0 : 4 + 1 ≤ w.heap.size := by
    obtain ⟨ev, hc, _⟩ := hev
    exact cell_lt hc
  have hRl := (Array.getElem?_eq_some_iff.1 hb).1
  have hevW : EvOk W := EvOk.keep w W (fun b hb => hw.block b (by omega)) hev
  have P0 := pv_start (W := W) (fun _ => sdO R schZ (.slice none 0 0) (W.heap.size + 1)) (4 + 1) EvOk EvOk.keep hevW (by omega) (fun t => !(t.k == 2) || intOk t.s) hint hb ha ht hc hs hz hsz hg
  refine ⟨⟨⟨W.heap.size + 1, R, a, cap, ts, z, W.heap.size, fun _ => sdO R schZ (.slice none 0 0) (W.heap.size + 1), 4 + 1, EvOk, fun t => !(t.k == 2) || intOk t.s⟩, W.heap.size + 1, w.heap.size, rfl, rfl, Nat.le_refl _, hR, by show w.heap.size ≤ W.heap.size; omega, by show w.heap.size ≤ W.heap.size + 1; omega⟩, rfl, rfl, rfl, rfl, ?_⟩
  refine ⟨P0.keep (fun b hl => ?_) (by show W.heap.size + 1 ≤ _; omega), .nil, hm1, by show 0 + ts.length ≤ 8001; omega, by decide⟩
  have hl' : b < W.heap.size + 1 := hl
  by_cases hbq : b = W.heap.size
  · subst hbq
    rw [hq1]
    exact (heap_alloc_new W (sdO R schZ (.slice none 0 0) (W.heap.size + 1))).symm
  · rw [hb1.block b (by omega), Below.heap_alloc _ _ _ (by omega)]

set_option maxHeartbeats 8000000 in
set_option maxRecDepth 100000 in
theorem sparse_any (s : ByteArray) (w : World) (hs : s.size ≤ 1000000000) (hsm : tokSmall (lexP s.data.toList).1 = true) (hio : intsOk (lexP s.data.toList).1 = true) (hev : EvOk w) : Calls Tryz.prog 17 #[.string s] w (SParseIs w (sparseM s.data.toList)) := by
  have hb0 : Below w.heap.size w (w.alloc scB) := (Below.refl _ w).alloc (Nat.le_refl _) _
  have hz0 : (w.alloc scB).heap.size = w.heap.size + 1 := by simp
  have hx0 : (w.alloc scB).heap[w.heap.size]? = some scB := heap_alloc_new _ _
  have HNW := cNew_any s (w.alloc scB) hs
  have HM := Lib.hid (show sparseM s.data.toList = if (lexP s.data.toList).2.2 = 0 then (if (sdlM s.size ⟨(lexP s.data.toList).1, 0, 0⟩).2.er = 0 then ((sdlM s.size ⟨(lexP s.data.toList).1, 0, 0⟩).1, 0, 0) else (schZ, (sdlM s.size ⟨(lexP s.data.toList).1, 0, 0⟩).2.wr, (sdlM s.size ⟨(lexP s.data.toList).1, 0, 0⟩).2.er)) else (schZ, (lexP s.data.toList).2.1, (lexP s.data.toList).2.2) from rfl)
  have HLEN := Lib.hid (lexP_len s.data.toList)
  have HLZ := Lib.hid (lexP_size (l := s.data.toList))
  have HEV := Lib.hid hev
  generalize lexP s.data.toList = LR at *
  obtain ⟨ts, at_, er⟩ := LR
  dsimp only at HM hsm hio HLEN HLZ
  have HSM := Lib.hid hsm
  have HIO := Lib.hid hio
  have HB0 := Lib.hid hb0
  have HX0 := Lib.hid hx0
  have HZ0 := Lib.hid hz0
  clear hsm hio hb0 hx0 hz0 hev
  unfold scB at HNW
  unfold NewIs at HNW
  dsimp only at HNW
  by_cases he : er = 0
  · subst he
    simp only [reduceIte] at HNW
    have hm2 := HM.out
    rw [if_pos rfl] at hm2
    have HM2 := Lib.hid hm2
    clear HM hm2
    go_enter Tryz.func17, Tryz.ntmps17
    go_wp2_with fail
    refine HNW.mono ?_
    rintro e w1 ⟨hb1, a, cap, R, rfl, hR, hcur, hc, ht, ha, hg⟩
    have hb1' : Below (w.alloc scB).heap.size (w.alloc scB) w1 := hb1
    have hR' : (w.alloc scB).heap.size ≤ R := hR
    have hbx : w1.heap[w.heap.size]? = some scB := (hb1'.block _ (by rw [HZ0.out]; omega)).trans HX0.out
    have hRw : R ≠ w.heap.size := by rw [HZ0.out] at hR'; omega
    have HNP := newParser_any R w1
    have hev0 : EvOk (w.alloc scB) := EvOk.keep w _ (fun b hb => by
      obtain ⟨ev, hc, _⟩ := HEV.out
      exact Below.heap_alloc _ _ _ (Nat.lt_of_lt_of_le hb (cell_lt hc))) HEV.out
    have HST := Lib.hid (fun W1 => sx_start (w := w.alloc scB) (W := w1) (W1 := W1) hcur ha ht hc HLEN.out (HLZ.out (by first | rfl | trivial)) (fun t ht => by
      have := List.all_eq_true.1 HSM.out t ht
      simpa using this) hg hev0 hb1' hR' (fun t ht => List.all_eq_true.1 HIO.out t ht))
    have HB1 := Lib.hid hb1'
    have HBX := Lib.hid hbx
    have hlt1 : w.heap.size < w1.heap.size := (Array.getElem?_eq_some_iff.1 hbx).1
    clear hb1 hb1' hR hR' hcur hc ht ha hg hbx HNW hev0
    go_wp2_with fail
    refine HNP.mono ?_
    rintro e w2 ⟨rfl, hb2, hq2, hm2, hz2⟩
    obtain ⟨B, eR, eQ, ez, en, S2⟩ := HST.out w2 hb2 hq2 hm2 hz2
    have HD := sDefs_any w2 S2
    rw [ez, eQ] at HD
    have hbx2 := (hb2.block _ hlt1).trans HBX.out
    have hl2 : w.heap.size < w2.heap.size := by omega
    have HB2 := Lib.hid (HB1.out.trans (hb2.mono HB1.out.size))
    have HBX2 := Lib.hid hbx2
    have hQw : w1.heap.size ≠ w.heap.size := by omega
    have HE := Lib.hid (And.intro eR (And.intro eQ en))
    clear hb2 hq2 hm2 hz2 HST S2 HNP hbx2 HB1 HBX eR eQ ez en
    go_wp2_with fail
    refine HD.mono ?_
    rintro e w3 ⟨rfl, ⟨b3, vt, ct, S3⟩, hb3⟩
    rw [HE.out.2.2] at hb3
    have hq3 := S3.blk
    have hx3 := (hb3.block w.heap.size (by rw [HZ0.out]; omega)).trans HBX2.out
    obtain ⟨m, p, hbk, -, -, -⟩ := S3.p.bk
    have hbk' : w3.heap[B.c.R]? = some (.cells #[.slice B.c.a m B.c.cap, .int .i64 (p : Int), .int .i64 (B.c.z : Int), .int .i64 ((sdlM s.size ⟨ts, 0, 0⟩).2.er : Int), .int .i64 ((sdlM s.size ⟨ts, 0, 0⟩).2.wr : Int)] 155 (0, 0)) := hbk
    have hrow := S3.row.done typOk (by have := S3.len; show (sdlM s.size ⟨ts, 0, 0⟩).1.types.length ≤ _; omega)
    rw [HE.out.1] at hbk' hq3
    rw [HE.out.2.1] at hq3
    have hM := B.hM
    have hNQ : B.c.Q < B.c.N := S3.p.hQ
    rw [HE.out.2.1] at hNQ
    have HROW := Lib.hid (show RowD TypE 5 w3 (fun b => w.heap.size + 1 ≤ b ∧ b < w3.heap.size) (sdlM s.size ⟨ts, 0, 0⟩).1.types vt from RowD.step typOk (fun b hd => ⟨by have := hd.1; omega, hd.2⟩) (fun _ _ _ => rfl) hrow)
    have HW := cWrong_at w3 hbk'
    generalize sdlM s.size ⟨ts, 0, 0⟩ = RD at *
    obtain ⟨x, s3⟩ := RD
    dsimp only at HM2 HW hq3 HROW
    have HB3 := Lib.hid (HB2.out.trans (hb3.mono (Nat.le_refl _)))
    obtain ⟨aL, cL, rfl, -, -⟩ := fresh_row S3.row.own
    dsimp only at hq3 HROW
    have HQ3 := Lib.hid hq3
    have HX3 := Lib.hid hx3
    obtain ⟨q0, q1, q2, q3, q4, qf, ql⟩ := (show w3.cell? ⟨w1.heap.size, 0, none⟩ = some (.pointer (some ⟨R, 0, none⟩)) ∧ w3.cell? ⟨w1.heap.size, 1, none⟩ = some (.string ⟨x.qu.toArray⟩) ∧ w3.cell? ⟨w1.heap.size, 2, none⟩ = some (.string ⟨x.mu.toArray⟩) ∧ w3.cell? ⟨w1.heap.size, 3, none⟩ = some (.slice aL x.types.length cL) ∧ w3.cell? ⟨w1.heap.size, 4, none⟩ = some (.map (some B.M)) ∧ (∀ j, w3.frozen? ⟨w1.heap.size, j, none⟩ = false) ∧ w1.heap.size < w3.heap.size from
      ⟨Lib.cell_of_heap hq3 0, Lib.cell_of_heap hq3 1, Lib.cell_of_heap hq3 2, Lib.cell_of_heap hq3 3, Lib.cell_of_heap hq3 4, fun j => by simp [World.frozen?, hq3, sdO], (Array.getElem?_eq_some_iff.1 hq3).1⟩)
    clear hb3 S3 hbk hbk' hrow hM hNQ HD HE hx3 hq3 HB2 HBX2
    go_wp2_with fail
    refine HW.mono ?_
    rintro e w5 ⟨rfl, hsm5⟩
    have hx5 := HX3.out
    rw [← hsm5.heap] at hx5
    have hq5 := HQ3.out
    rw [← hsm5.heap] at hq5
    have hz5 : w5.heap.size = w3.heap.size := congrArg Array.size hsm5.heap
    have HB5 := Lib.hid (show Below w.heap.size w w5 from (HB0.out.trans ((HB3.out.mono (by rw [HZ0.out]; omega)).trans (hsm5.below _))))
    have HROW5 := Lib.hid (RowD.step (w' := w5) (D' := fun b => w.heap.size + 1 ≤ b ∧ b < w5.heap.size) typOk (fun b hd => ⟨hd.1, by rw [hz5]; exact hd.2⟩) (fun b o hd => World.cell?_of_block (a := ⟨b, o, none⟩) (by rw [hsm5.heap])) HROW.out)
    have HX5 := Lib.hid hx5
    unfold scB at hx5
    obtain ⟨r0, r1, r2, rf, rl⟩ := bk3 hx5
    clear q0 q1 q2 q3 q4 qf ql
    obtain ⟨q1, q2, q3, ql⟩ := (show w5.cell? ⟨w1.heap.size, 1, none⟩ = some (.string ⟨x.qu.toArray⟩) ∧ w5.cell? ⟨w1.heap.size, 2, none⟩ = some (.string ⟨x.mu.toArray⟩) ∧ w5.cell? ⟨w1.heap.size, 3, none⟩ = some (.slice aL x.types.length cL) ∧ w1.heap.size < w5.heap.size from
      ⟨Lib.cell_of_heap hq5 1, Lib.cell_of_heap hq5 2, Lib.cell_of_heap hq5 3, (Array.getElem?_eq_some_iff.1 hq5).1⟩)
    clear hx5 hq5 hsm5 HW hz5
    by_cases he3 : s3.er = 0
    · have hm4 := HM2.out
      rw [if_pos he3] at hm4
      have HM4 := Lib.hid hm4
      have hne0 : ((s3.er : Int) != 0) = false := by rw [he3]; rfl
      have HDF := Lib.hid (bk3 (three_set HX5.out (.string ⟨x.qu.toArray⟩) (.string ⟨x.mu.toArray⟩) (.slice aL x.types.length cL)))
      clear hm4 HM2 he3
      go_wp2_with fail
      obtain ⟨f0, f1, f2, -, -⟩ := HDF.out
      refine bodyPost_ret (v := .tuple #[.agg #[.string ⟨x.qu.toArray⟩, .string ⟨x.mu.toArray⟩, .slice aL x.types.length cL], .int .i64 0, .int .i64 0]) (by simp [results, Tryz.results17, go_sem, f0, f1, f2]) rfl ?_
      rw [HM4.out]
      refine ⟨_, rfl, ?_, below_3 HB5.out _ _ _⟩
      refine RowD.step typOk (fun b hd => ⟨by have := hd.1; omega, by simp only [World.setCell, Array.size_modify]; exact hd.2⟩) (fun b o hd => World.cell?_of_block (a := ⟨b, o, none⟩) ?_) HROW5.out
      have hbw : b ≠ w.heap.size := by have := hd.1; omega
      rw [Below.heap_setCell _ _ _ _ hbw, Below.heap_setCell _ _ _ _ hbw, Below.heap_setCell _ _ _ _ hbw]
    · have hne : ((s3.er : Int) != 0) = true := by simp; omega
      have hm4 := HM2.out
      rw [if_neg he3] at hm4
      have HM4 := Lib.hid hm4
      have HDF := Lib.hid (bk3 (three_set HX5.out (.string ⟨#[]⟩) (.string ⟨#[]⟩) (.slice none 0 0)))
      clear hm4 HM2 he3
      go_wp2_with fail
      obtain ⟨f0, f1, f2, -, -⟩ := HDF.out
      refine bodyPost_ret (v := .tuple #[.agg #[.string ⟨#[]⟩, .string ⟨#[]⟩, .slice none 0 0], .int .i64 (s3.wr : Int), .int .i64 (s3.er : Int)]) (by simp [results, Tryz.results17, go_sem, f0, f1, f2]) rfl ?_
      rw [HM4.out]
      exact ⟨_, rfl, .nil, below_3 HB5.out _ _ _⟩
  · have hne : ((er : Int) != 0) = true := by simp; omega
    have hm2 := HM.out
    rw [if_neg he] at hm2
    simp only [if_neg he] at HNW
    have HM2 := Lib.hid hm2
    clear HM hm2
    go_enter Tryz.func17, Tryz.ntmps17
    go_wp2_with fail
    refine HNW.mono ?_
    rintro e w1 ⟨hb1, rfl⟩
    have hb1' : Below (w.alloc scB).heap.size (w.alloc scB) w1 := hb1
    have hb2 : Below w.heap.size w w1 := HB0.out.trans (hb1'.mono HB0.out.size)
    have hbx : w1.heap[w.heap.size]? = some scB := (hb1'.block _ (by rw [HZ0.out]; omega)).trans HX0.out
    have HB2 := Lib.hid hb2
    have HF := Lib.hid (bk3 (three_set hbx (.string ⟨#[]⟩) (.string ⟨#[]⟩) (.slice none 0 0)))
    unfold scB at hbx
    obtain ⟨q0, q1, q2, qf, ql⟩ := bk3 hbx
    clear hb1 hb1' hb2 HNW hbx he
    go_wp2_with fail
    obtain ⟨f0, f1, f2, -, -⟩ := HF.out
    refine bodyPost_ret (v := .tuple #[.agg #[.string ⟨#[]⟩, .string ⟨#[]⟩, .slice none 0 0], .int .i64 (at_ : Int), .int .i64 (er : Int)]) (by simp [results, Tryz.results17, go_sem, f0, f1, f2]) rfl ?_
    rw [HM2.out]
    exact ⟨_, rfl, .nil, below_3 HB2.out _ _ _⟩

end Go.Proofs.YtkahnlgedacppaaGreatDoor
/-
  SdlWrong: its texts; the example of layer 8, as the laws ask it.
-/
namespace Go.Proofs.YtkahnlgedacppaaGreatDoor
open Go.RowKit

def wrS : Nat → List UInt8
  | 0 => [116, 121, 112, 101, 32, 84, 123, 125]
  | 1 => [116, 121, 112, 101, 32, 84, 123, 97, 125]
  | 2 => [116, 121, 112, 101, 32, 84, 123, 97, 58, 73, 110, 116, 64, 99, 111, 115, 116, 125]
  | 3 => [116, 121, 112, 101, 32, 84, 123, 97, 58, 73, 110, 116, 64, 111, 116, 104, 101, 114, 40, 110, 58, 49, 41, 125]
  | 4 => [117, 110, 105, 111, 110, 32, 85]
  | 5 => [101, 110, 117, 109, 32, 69, 123, 125]
  | 6 => [105, 110, 112, 117, 116, 32, 73, 123, 97, 58, 73, 110, 116, 61, 36, 118, 125]
  | 7 => [104, 111, 112]
  | 8 => [115, 99, 104, 101, 109, 97, 123, 109, 117, 116, 97, 116, 105, 111, 110, 58, 77, 125]
  | _ => [116, 121, 112, 101, 32, 84, 123, 97, 40, 41, 58, 73, 110, 116, 125]
def badN : Nat → Nat
  | 0 => 7
  | 1 => 8
  | 2 => 17
  | 3 => 13
  | 4 => 7
  | 5 => 7
  | 6 => 14
  | 7 => 0
  | 8 => 7
  | _ => 9
def scS : List UInt8 := [115, 99, 97, 108, 97, 114, 32, 83]
def ahS : Nat → List UInt8
  | 0 => []
  | j + 1 => ahS j ++ scS ++ dgs 1 j ++ [10]
def wOk (p k : Nat) : Bool :=
  let s := ahS p
  let t := s ++ wrS k
  let l := (lexP t).1
  let r := sparseM t
  tokSmall l && intsOk l && decide (s.length ≤ 200) && (r.2.2 == 2 && (r.2.1 == s.length + badN k && (r.1.types.isEmpty && r.1.qu.isEmpty)))
theorem w_all : ((List.range 10).all fun p => (List.range 10).all fun k => wOk p k) = true := by kernel_rfl
theorem w_ok {p k : Nat} (hp : p < 10) (hk : k < 10) : wOk p k = true := by
  have := List.all_eq_true.1 w_all p (List.mem_range.2 hp)
  exact List.all_eq_true.1 this k (List.mem_range.2 hk)
theorem aw_lex : tokSmall (lexP awS).1 = true ∧ intsOk (lexP awS).1 = true := ⟨by kernel_rfl, by kernel_rfl⟩

theorem saw_facts {w : World} {D : Nat → Prop} {vt : Value} (h : RowD TypE 5 w D [⟨2, queryN, [], [⟨[97], [], ([73, 110, 116], []), 1⟩], []⟩] vt) : ∃ g off c g2 off2 c2, vt = .slice (some ⟨g, off, none⟩) 1 c ∧ 1 ≤ c ∧ 1 ≤ c2 ∧ D g ∧ D g2 ∧ w.cell? ⟨g, off + 3, none⟩ = some (.slice (some ⟨g2, off2, none⟩) 1 c2) ∧ w.cell? ⟨g2, off2 + 4, none⟩ = some (.int .i64 1) := by
  obtain ⟨a, c, rfl, -, hc, hr⟩ := h
  obtain ⟨g, off, rfl, hg, hel⟩ := hr (by decide)
  obtain ⟨cs, hl, hcs, hE⟩ := hel 0 _ rfl
  obtain ⟨_, vn, vf, vi, rfl, hn1, hf1, hi1⟩ := hE
  obtain ⟨a2, c2, rfl, -, hc2, hr2⟩ := hf1
  obtain ⟨g2, off2, rfl, hg2, hel2⟩ := hr2 (by decide)
  obtain ⟨cs2, hl2, hcs2, hE2⟩ := hel2 0 _ rfl
  obtain ⟨_, va, rfl, _⟩ := hE2
  have k3 := hcs 3 _ rfl
  have k4 := hcs2 4 _ rfl
  rw [Nat.zero_mul, Nat.add_zero] at k3 k4
  exact ⟨g, off, c, g2, off2, c2, rfl, hc, hc2, hg, hg2, k3, k4⟩

set_option maxHeartbeats 4000000 in
set_option maxRecDepth 100000 in
theorem sdlAwake (w : World) (hev : EvOk w) : Calls Tryz.prog 14 #[] w (TrueBelow w) := by
  have HP := sparse_any ⟨awS.toArray⟩ w (by decide) (by simpa using aw_lex.1) (by simpa using aw_lex.2) hev
  rw [show (⟨awS.toArray⟩ : ByteArray).data.toList = awS from by simp, sm_awake] at HP
  clear hev
  unfold awS at HP
  go_enter Tryz.func14, Tryz.ntmps14
  go_wp2_with fail
  refine HP.mono ?_
  rintro e w1 ⟨vt, rfl, hrow, b1⟩
  dsimp only at hrow
  obtain ⟨g, off, c, g2, off2, c2, rfl, hc, hc2, hg, hg2, k3, k4⟩ := saw_facts hrow
  have HB := Lib.hid b1
  have hgl := hg.2
  have hgl2 := hg2.2
  have hd : decide ((0 : Int) < 1) = true := by decide
  clear HP hrow b1 hg hg2
  unfold queryN
  go_wp2_with fail
  go_ret
  exact ⟨by first | done | rfl, HB.out.alloc HB.out.size _⟩

end Go.Proofs.YtkahnlgedacppaaGreatDoor
