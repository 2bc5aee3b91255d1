/-
  The document's example of layer 5.
-/
import Derived.Test.YtiblffipfldgjaaGreatDoorMV7
import Derived.Test.YtiblffipfldgjaaGreatDoorMV12
import Derived.Test.YtiblffipfldgjaaGreatDoorRows
import Derived.Test.YtiblffipfldgjaaGreatDoorPlace
import Derived.Deep.Grids
import Derived.ProofKit
import Derived.OpenShut
import Derived.Test.YtiblffipfldgjaaGreatDoorMV18
import Derived.Test.YtiblffipfldgjaaGreatDoorQuote
import Derived.Test.YtiblffipfldgjaaGreatDoorPure2
import Derived.IntWalk
import Derived.Test.YtiblffipfldgjaaGreatDoorQuote2
import Derived.Test.YtiblffipfldgjaaGreatDoorSmall
import Derived.Test.YtiblffipfldgjaaGreatDoorNum
import Derived.Test.YtiblffipfldgjaaGreatDoorChkN
import Derived.BigQuiet
import Derived.Deep.Cut
import Derived.Deep.LoopGhost
import Derived.Test.YtiblffipfldgjaaGreatDoorChk
import Derived.Test.YtiblffipfldgjaaGreatDoorVal
import Derived.Deep.RegionWith
import Derived.Deep.QuietTactic
import Derived.StillTailTactics
import Derived.Test.YtiblffipfldgjaaGreatDoorText2
import Derived.Test.YtiblffipfldgjaaGreatDoorCopy2
import Derived.Deep.Slices
import Derived.Test.YtiblffipfldgjaaGreatDoorVp
import Derived.Test.YtiblffipfldgjaaGreatDoorLaid
import Derived.Test.YtiblffipfldgjaaGreatDoorCards
import Derived.Test.YtiblffipfldgjaaGreatDoorTie
import Derived.Deep.DeepHandedRow
namespace Go.Proofs.YtiblffipfldgjaaGreatDoor
open Go.RowKit

def awTs : List Tk := [⟨5, [91], 0⟩, ⟨2, [49], 1⟩, ⟨5, [36], 3⟩, ⟨1, [97], 4⟩, ⟨5, [93], 5⟩]
def awV : JV := .mk 7 ⟨#[]⟩ [] [.mk 3 ⟨#[49]⟩ [] [], .mk 9 ⟨#[97]⟩ [] []]
theorem aw_lex : lexP (⟨#[91, 49, 32, 36, 97, 93]⟩ : ByteArray).data.toList = (awTs, 0, 0) := by kernel_rfl
theorem aw_pv : pvT 12 (awTs.map strip) = (awV, [], 0) := by kernel_rfl
theorem aw_txt : vtextB awV = [91, 49, 32, 36, 97, 93] := by kernel_rfl
theorem aw_len : (vtxt 12 awV).length = 6 := by kernel_rfl

/-- What a value that was read looks like to those that read on. -/
theorem rdD_rd {W : World} {D : Nat → Prop} {n : Nat} {x : JV} {v : Value} (hD : ∀ b, D b → b < W.heap.size) (h : RdD W D n x v) (W' : World) (hb : Below W.heap.size W W') : Rd W' W.heap.size n x v := (h.toB hD).below hb

set_option maxHeartbeats 2000000 in
set_option maxRecDepth 100000 in
theorem vAwake (w : World) : Calls Tryz.prog 7 #[] w (TrueBelow w) := by
  have hA := fun W => lex_toks aw_lex (by decide) W (show 6 ≤ 1000000000 by decide)
  go_enter Tryz.func7, Tryz.ntmps7
  go_wp2_with fail
  refine (hA _).mono ?_
  rintro e w1 ⟨b1, g, cap, rfl, hcap, hg1, hg2, hc⟩
  have HV := valValue_any (ts := awTs) (a := some ⟨g, 0, none⟩) w1 (fun _ => ⟨g, rfl, hc⟩) hcap (by decide) (by decide)
  rw [aw_pv] at HV
  clear hc hA
  go_wp2_with fail
  refine HV.mono ?_
  rintro e w2 ⟨b2, v, rfl, _, hR⟩
  rw [if_pos (show (awV, ([] : List Sk), 0).2.2 = 0 from rfl)] at hR
  have HRd := Lib.hid (rdD_rd (fun b hd => hd.2) hR)
  obtain ⟨an, cn, ap, cp, rfl, _, _, hps⟩ := hR
  obtain ⟨gb, off, rfl, hgb, hcells⟩ := hps (by decide)
  obtain ⟨c0, c1, c2, c3, h4, hR1⟩ := hcells 1 (.mk 9 ⟨#[97]⟩ [] []) rfl
  obtain ⟨an1, cn1, ap1, cp1, e1⟩ := hR1.shape
  injection e1 with e1
  have e1' : [c0, c1, c2, c3] = [_, _, _, _] := congrArg Array.toList e1
  injection e1' with e0 e1'
  subst e0
  have hk : w2.cell? ⟨gb, off + 4, none⟩ = some (.int .i64 9) := h4.1
  have hglt := hgb.2
  have hW : Below w2.heap.size w2 (w2.alloc (.cells #[.int .i64 awV.k, .string awV.s, .slice an awV.ns.length cn, .slice (some ⟨gb, off, none⟩) awV.ps.length cp] 25)) := (Below.refl _ _).alloc (Nat.le_refl _) _
  have HT := vtext_any w2.heap.size 13 awV _ _ hW.size (HRd.out _ hW) (by rw [aw_len]; decide)
  rw [aw_txt] at HT
  have HB := Lib.hid ((b1.trans (b2.mono b1.size)).trans (hW.mono (b1.trans (b2.mono b1.size)).size))
  clear HV hps hcells h4 hR1 hW HRd hgb e1 e1'
  go_wp2_with fail
  refine HT.mono ?_
  rintro e w3 ⟨rfl, b3⟩
  go_wp2_with fail
  go_ret
  exact ⟨rfl, HB.out.trans (b3.mono HB.out.size)⟩

end Go.Proofs.YtiblffipfldgjaaGreatDoor

/-
  A slice of bools, read: its bits, its length, its cells.
-/
namespace Go.Proofs.YtiblffipfldgjaaGreatDoor
open Go.ChangeShapes Go.WideShapes Go.ChangeAt Go.RowKit

theorem plain_addr' {W : World} {a : Addr} {v : Value} (h : W.cell? a = some v) : ∃ b off, a = ⟨b, off, none⟩ := by
  obtain ⟨b, off, spot⟩ := a
  have hspot : spot = none := by simpa using World.cell?_spot h
  subst hspot
  exact ⟨b, off, rfl⟩
theorem bools_read {H : Type} {enc : TypeId × Value → H} {W : World} {a : Option Addr} {len cap : Nat} {d : DataW H} {p : List MemPlace} {base : Nat} {held : Bool} (h : DataW.Trod enc Tryz.prog W base (fun _ => true) held 43 (.slice a len cap) d p) :
    ∃ zs : List Bool, zs.length = len ∧ len ≤ maxLen ∧ len ≤ cap ∧ (0 < len → ∃ b off, a = some ⟨b, off, none⟩ ∧ ∀ i z, zs[i]? = some z → W.cell? ⟨b, off + i, none⟩ = some (.bool z)) := by
  obtain ⟨fuel, hf⟩ := h
  rcases Go.Deep.open_bools Tryz.underlying43 Tryz.underlying4 (by kernel_rfl) hf with ⟨hcs, _⟩ | ⟨x, l, c, B, hcs, _, hl, hm, _, hcell⟩
  · simp [Value.cells] at hcs
    obtain ⟨rfl, rfl, rfl⟩ := hcs
    exact ⟨[], rfl, Nat.zero_le _, Nat.le_refl _, fun h => absurd h (by omega)⟩
  · simp [Value.cells] at hcs
    obtain ⟨rfl, rfl, rfl⟩ := hcs
    refine ⟨(List.range len).map B, by simp, by omega, hl, fun h => ?_⟩
    obtain ⟨b, off, rfl⟩ := plain_addr' (hcell 0 (by omega))
    refine ⟨b, off, rfl, fun i z hz => ?_⟩
    by_cases hi : i < len
    · have := hcell i (by omega)
      rw [add_plain] at this
      have e : z = B i := by simpa [hi] using hz.symm
      rw [e]
      exact this
    · simp [hi] at hz

end Go.Proofs.YtiblffipfldgjaaGreatDoor

/-
  ValueTypes: its walk.
-/
namespace Go.Proofs.YtiblffipfldgjaaGreatDoor
open Go.RowKit
set_option linter.unusedSimpArgs false

theorem trem_nat (v n : Int) (hn : 0 < n) : ∃ u : Nat, v % n = (u : Int) ∧ (u : Int) < n := ⟨(v % n).toNat, by have := Int.emod_nonneg v (show n ≠ 0 by omega); omega, by have := Int.emod_lt_of_pos v hn; have := Int.emod_nonneg v (show n ≠ 0 by omega); omega⟩

theorem sz33 : (⟨#[33]⟩ : ByteArray).size = 1 := rfl
theorem sz91 : (⟨#[91]⟩ : ByteArray).size = 1 := rfl
theorem sz93 : (⟨#[93]⟩ : ByteArray).size = 1 := rfl
theorem cnt_app : ∀ (a b : List UInt8), cnt93 (a ++ b) = cnt93 a + cnt93 b
  | [], b => by show cnt93 b = 0 + cnt93 b; omega
  | x :: a, b => by show (if x == 93 then 1 else 0) + cnt93 (a ++ b) = ((if x == 93 then 1 else 0) + cnt93 a) + cnt93 b; rw [cnt_app a b]; omega
theorem wr_93 : ∀ l : List UInt8, wrOk l = true → wrOk (l ++ [93]) = true
  | [], _ => rfl
  | [b], h => by
    rcases wrOk_head h with rfl | rfl <;> rfl
  | b :: c :: r, h => by
    have h2 := wr_93 (c :: r) (wrOk_tail h)
    unfold wrOk at h
    simp only [Bool.and_eq_true] at h
    show ((b == 33 || b == 93) && !(b == 33 && c == 33) && wrOk (c :: r ++ [93])) = true
    rw [h.1.1, h.1.2, h2]; rfl
theorem wr_33 : ∀ l : List UInt8, wrOk l = true → l.getLast? ≠ some 33 → wrOk (l ++ [33]) = true
  | [], _, _ => rfl
  | [b], h, hl => by
    rcases wrOk_head h with rfl | rfl
    · exact absurd rfl hl
    · rfl
  | b :: c :: r, h, hl => by
    have h2 := wr_33 (c :: r) (wrOk_tail h) (by simpa using hl)
    unfold wrOk at h
    simp only [Bool.and_eq_true] at h
    show ((b == 33 || b == 93) && !(b == 33 && c == 33) && wrOk (c :: r ++ [33])) = true
    rw [h.1.1, h.1.2, h2]; rfl
theorem wr_two : ∀ l : List UInt8, wrOk (l ++ [33, 33]) = false
  | [] => rfl
  | b :: l => by
    have h := wr_two l
    cases hx : wrOk (b :: (l ++ [33, 33])) with
    | false => exact hx
    | true => rw [wrOk_tail hx] at h; cases h
theorem tt_33 (n W : List UInt8) : tyText n (W ++ [33]) = tyText n W ++ [33] := by
  unfold tyText
  rw [cnt_app]
  show List.replicate (cnt93 W + 0) 91 ++ _ = _
  rw [Nat.add_zero]
  simp
theorem tt_93 (n W : List UInt8) : tyText n (W ++ [93]) = 91 :: (tyText n W ++ [93]) := by
  unfold tyText
  rw [cnt_app]
  show List.replicate (cnt93 W + 1) 91 ++ _ = _
  rw [List.replicate_succ]
  simp

/-- What is so at the head of the loop: j rounds are done, of k + 1. -/
def Tyj (k j : Nat) (W S : List UInt8) : Prop := S = tyText [84] W ∧ wrOk W = true ∧ (j ≤ k → cnt93 W = j ∧ W.getLast? ≠ some 33) ∧ (k < j → cnt93 W = k)
theorem last_93 (W : List UInt8) : (W ++ [93]).getLast? ≠ some 33 := by simp
theorem fact_n {k j : Nat} {WS S : ByteArray} (hj : j < k) (h : Tyj k j (vbl WS) (vbl S)) : Tyj k (j + 1) (vbl (WS ++ ⟨#[93]⟩)) (vbl ((⟨#[91]⟩ ++ S) ++ ⟨#[93]⟩)) := by
  obtain ⟨h1, h2, h3, _⟩ := h
  rw [vbl_append, vbl_append, vbl_append]
  refine ⟨?_, wr_93 _ h2, fun _ => ⟨?_, last_93 _⟩, fun h => by omega⟩
  · show ([91] ++ vbl S) ++ [93] = tyText [84] (vbl WS ++ [93])
    rw [tt_93, h1]; rfl
  · show cnt93 (vbl WS ++ [93]) = j + 1
    rw [cnt_app, (h3 (by omega)).1]; rfl
theorem fact_b {k j : Nat} {WS S : ByteArray} (hj : j < k) (h : Tyj k j (vbl WS) (vbl S)) : Tyj k (j + 1) (vbl ((WS ++ ⟨#[33]⟩) ++ ⟨#[93]⟩)) (vbl ((⟨#[91]⟩ ++ (S ++ ⟨#[33]⟩)) ++ ⟨#[93]⟩)) := by
  obtain ⟨h1, h2, h3, _⟩ := h
  rw [vbl_append, vbl_append, vbl_append, vbl_append, vbl_append]
  refine ⟨?_, wr_93 _ (wr_33 _ h2 (h3 (by omega)).2), fun _ => ⟨?_, last_93 _⟩, fun h => by omega⟩
  · show ([91] ++ (vbl S ++ [33])) ++ [93] = tyText [84] ((vbl WS ++ [33]) ++ [93])
    rw [tt_93, tt_33, h1]; rfl
  · show cnt93 ((vbl WS ++ [33]) ++ [93]) = j + 1
    rw [cnt_app, cnt_app, (h3 (by omega)).1]; rfl
theorem fact_nk {k j : Nat} {WS S : ByteArray} (hj : j = k) (h : Tyj k j (vbl WS) (vbl S)) : Tyj k (j + 1) (vbl WS) (vbl S) := by
  obtain ⟨h1, h2, h3, _⟩ := h
  exact ⟨h1, h2, fun h => by omega, fun _ => by rw [(h3 (by omega)).1]; exact hj⟩
theorem fact_bk {k j : Nat} {WS S : ByteArray} (hj : j = k) (h : Tyj k j (vbl WS) (vbl S)) : Tyj k (j + 1) (vbl (WS ++ ⟨#[33]⟩)) (vbl (S ++ ⟨#[33]⟩)) := by
  obtain ⟨h1, h2, h3, _⟩ := h
  rw [vbl_append, vbl_append]
  refine ⟨?_, wr_33 _ h2 (h3 (by omega)).2, fun h => by omega, fun _ => ?_⟩
  · show vbl S ++ [33] = tyText [84] (vbl WS ++ [33])
    rw [tt_33, h1]
  · show cnt93 (vbl WS ++ [33]) = k
    rw [cnt_app, (h3 (by omega)).1, hj]; rfl

/-- The type under way lies in block w.heap.size. -/
structure Bw (w W : World) (WS : ByteArray) : Prop where
  bel : Below w.heap.size w W
  lt : w.heap.size < W.heap.size
  c0 : W.cell? ⟨w.heap.size, 0, none⟩ = some (.string ⟨#[84]⟩)
  c1 : W.cell? ⟨w.heap.size, 1, none⟩ = some (.string WS)
  fz : ∀ j, W.frozen? ⟨w.heap.size, j, none⟩ = false
theorem Bw.set {w W : World} {WS : ByteArray} (h : Bw w W WS) (X : ByteArray) : Bw w (W.setCell ⟨w.heap.size, 1, none⟩ (.string X)) X :=
  ⟨h.bel.setCell (p := ⟨w.heap.size, 1, none⟩) (Nat.le_refl _) _, by have := h.lt; simpa [World.setCell] using this, (World.cell?_setCell_other _ _ _ _ (by simp)).trans h.c0, World.cell?_setCell_same _ _ _ h.c1, fun j => (World.frozen?_setCell _ _ _ _).trans (h.fz j)⟩
theorem Bw.keep {w W W' : World} {WS : ByteArray} (h : Bw w W WS) (hb : Below W.heap.size W W') : Bw w W' WS := by
  have hk := hb.block w.heap.size h.lt
  have c : ∀ j, W'.cell? ⟨w.heap.size, j, none⟩ = W.cell? ⟨w.heap.size, j, none⟩ := fun j => World.cell?_of_block (a := ⟨w.heap.size, j, none⟩) hk
  exact ⟨h.bel.trans (hb.mono h.bel.size), Nat.lt_of_lt_of_le h.lt hb.size, (c 0).trans h.c0, (c 1).trans h.c1, fun j => (World.frozen?_of_block (a := ⟨w.heap.size, j, none⟩) hk).trans (h.fz j)⟩

/-- A type's text, lexed. -/
theorem ty_lex {X : ByteArray} {n ws tl : List UInt8} {tk : List Sk} (hn : nameB n = true) (hw : wrOk ws = true) (hX : vbl X = tyText n ws ++ tl) (hl : (tyText n ws ++ tl).length ≤ 8000) (htl : sepV tl) (hlex : ∀ (a : Nat) (acc : List Tk), ∃ ts, ts.map strip = tk ∧ lxG a tl acc = (acc ++ ts, 0, 0)) :
    ∃ ts : List Tk, ts.map strip = tyToks n ws ++ tk ∧ lexP X.data.toList = (ts, 0, 0) := by
  obtain ⟨ts, e, hg⟩ := ty_lexes hn hw tl htl 0 []
  obtain ⟨t2, e2, hg2⟩ := hlex (0 + (tyText n ws).length) ([] ++ ts)
  refine ⟨ts ++ t2, by rw [List.map_append, e, e2], ?_⟩
  show lexP (vbl X) = _
  rw [hX, lexP_G _ hl, hg, hg2, List.nil_append]

theorem tk_small {n ws : List UInt8} (hn : n.length ≤ 1000000) : ∀ t ∈ tyToks n ws, t.2.length ≤ 1000000 := by
  intro t ht
  unfold tyToks at ht
  rcases List.mem_append.1 ht with h | h
  · rw [(List.mem_replicate.1 h).2]; decide
  · rcases List.mem_cons.1 h with rfl | h
    · exact hn
    · obtain ⟨b, _, rfl⟩ := List.mem_map.1 h
      show 1 ≤ _; omega
theorem tk_len (n ws : List UInt8) : (tyToks n ws).length = cnt93 ws + 1 + ws.length := by
  unfold tyToks wk
  rw [List.length_append, List.length_replicate, List.length_cons, List.length_map]; omega

theorem type_some {a : Option Addr} {cap : Nat} {ts : List Tk} {nm ws : ByteArray} {tl : List Sk} (w : World) (ht : TkAt w a ts) (hc : ts.length ≤ cap) (hs : ts.length ≤ 9000) (hz : ∀ t ∈ ts, t.s.length ≤ 1000000) (hst : ts.map strip = tyToks (vbl nm) (vbl ws) ++ tl) (hw : wrOk (vbl ws) = true) (h12 : cnt93 (vbl ws) ≤ 12) (htl : sg (hdK tl) 33 = false) :
    Calls Tryz.prog 14 #[.slice a ts.length cap, .int .i64 0] w fun e w' => Below w.heap.size w w' ∧ e = .returned (.tuple #[.agg #[.string nm, .string ws], .int .i64 ((ts.length - tl.length : Nat) : Int), .bool true]) := by
  refine (valType_any w ht hc hs hz).mono fun e w' h => ?_
  rw [hst, type_reads hw h12 htl] at h
  exact h
theorem type_none {a : Option Addr} {cap : Nat} {ts : List Tk} {n ws : List UInt8} (w : World) (ht : TkAt w a ts) (hc : ts.length ≤ cap) (hs : ts.length ≤ 9000) (hz : ∀ t ∈ ts, t.s.length ≤ 1000000) (hst : ts.map strip = tyToks n ws) (h12 : 12 < cnt93 ws) :
    Calls Tryz.prog 14 #[.slice a ts.length cap, .int .i64 0] w fun e w' => Below w.heap.size w w' ∧ e = .returned (.tuple #[.agg #[.string ⟨#[]⟩, .string ⟨#[]⟩], .int .i64 0, .bool false]) := by
  refine (valType_any w ht hc hs hz).mono fun e w' h => ?_
  have hn : typeP (ts.map strip) = none := by rw [hst]; exact type_more h12
  rw [hn] at h
  exact h

set_option maxHeartbeats 8000000 in
set_option maxRecDepth 100000 in
theorem valueTypes_walk (n : Int) (a : Option Addr) (len cap : Nat) (zs : List Bool) (w : World) (hz : zs.length = len) (hl : len ≤ maxLen) (hr : 0 < len → ∃ b off, a = some ⟨b, off, none⟩ ∧ ∀ i z, zs[i]? = some z → w.cell? ⟨b, off + i, none⟩ = some (.bool z)) (hm : ∃ m, w.cell? ⟨0, 0, none⟩ = some (.int .i64 m)) :
    Calls Tryz.prog 5 #[.int .i64 n, .slice a len cap] w (TrueBelow w) := by
  obtain ⟨u, eu, lu⟩ := trem_nat n 16 (by omega)
  have HPn : ∀ W, Calls Tryz.prog 15 #[.int .i64 n, .int .i64 16] W fun e w' => e = .returned (.int .i64 (u : Int)) ∧ W = w' := fun W => by have := place_any n 16 W (by omega) (by omega); rw [eu] at this; exact this
  have hu : u < 16 := by omega
  have HZ := Lib.hid hz
  have HM := Lib.hid hm
  unfold maxLen at hl
  have hnew : (w.alloc (.cells #[.string ⟨#[84]⟩, .string ⟨#[]⟩] 27)).heap[w.heap.size]? = some (.cells #[.string ⟨#[84]⟩, .string ⟨#[]⟩] 27 (0, 0)) := heap_alloc_new _ _
  have HW0 := Lib.hid (show Bw w (w.alloc (.cells #[.string ⟨#[84]⟩, .string ⟨#[]⟩] 27)) ⟨#[]⟩ from ⟨(Below.refl _ w).alloc (Nat.le_refl _) _, by simp, Lib.cell_of_heap hnew 0, Lib.cell_of_heap hnew 1, fun j => by go_simp⟩)
  clear eu lu hz hnew hm
  go_enter Tryz.func5, Tryz.ntmps5
  go_wp2_with fail
  with_reducible refine (HPn _).mono ?_
  rintro e w' ⟨rfl, rfl⟩
  clear HPn
  go_wp2_with fail
  go_loopw [7, 8] (fun s i wr => ∃ (j : Nat) (WS S : ByteArray), j ≤ u + 1 ∧ s = .string S ∧ i = .int .i64 j ∧ Bw w wr WS ∧ Hid (Tyj u j (vbl WS) (vbl S)) ∧ WS.size ≤ 2 * j ∧ S.size ≤ 3 * j + 1) (fun _ i _ => u + 1 - (intOf i).toNat)
  case atStart => exact ⟨0, ⟨#[]⟩, ⟨#[84]⟩, by omega, rfl, rfl, HW0.out, Lib.hid ⟨rfl, rfl, fun _ => ⟨rfl, by decide⟩, fun h => by omega⟩, by decide, by decide⟩
  case round =>
    obtain ⟨j, WS, S, hj, rfl, rfl, hw, HI, zW, zS⟩ := hrel
    have HW := Lib.hid hw
    have hwl := hw.lt
    by_cases hlt : j ≤ u
    · have hd : decide ((j : Int) ≤ (u : Int)) = true := decide_eq_true (by omega)
      obtain ⟨hbel, _, c0, c1, fz⟩ := hw
      by_cases hge : len ≤ j
      · have hdl : decide ((j : Int) < (len : Int)) = false := decide_eq_false (by omega)
        clear hbel
        by_cases hk : j < u
        · have hdk : decide ((j : Int) < (u : Int)) = true := decide_eq_true (by omega)
          have HJ := Lib.hid hk
          have zS1 : (S ++ ⟨#[33]⟩).size ≤ 70 := by rw [ByteArray.size_append]; show _ + 1 ≤ _; omega
          have zS2 : (⟨#[91]⟩ ++ S : ByteArray).size ≤ 70 := by rw [ByteArray.size_append]; show 1 + _ ≤ _; omega
          have zS3 : (⟨#[91]⟩ ++ (S ++ ⟨#[33]⟩) : ByteArray).size ≤ 71 := by rw [ByteArray.size_append]; show 1 + _ ≤ _; omega
          have zW1 : (WS ++ ⟨#[33]⟩).size ≤ 70 := by rw [ByteArray.size_append]; show _ + 1 ≤ _; omega
          go_wp2_with fail
          go_roundw
          case rel =>
            exact ⟨j + 1, WS ++ ⟨#[93]⟩, (⟨#[91]⟩ ++ S) ++ ⟨#[93]⟩, by omega, rfl, by go_num, (HW.out.set _), Lib.hid (fact_n HJ.out HI.out), by refine ⟨?_, ?_⟩ <;> ((try simp only [ByteArray.size_append, sz33, sz91, sz93]); omega)⟩
          case measure => simp [intOf]; omega
        · have hdk : decide ((j : Int) < (u : Int)) = false := decide_eq_false (by omega)
          have HJ := Lib.hid (show j = u by omega)
          have zS1 : (S ++ ⟨#[33]⟩).size ≤ 70 := by rw [ByteArray.size_append]; show _ + 1 ≤ _; omega
          have zS2 : (⟨#[91]⟩ ++ S : ByteArray).size ≤ 70 := by rw [ByteArray.size_append]; show 1 + _ ≤ _; omega
          have zS3 : (⟨#[91]⟩ ++ (S ++ ⟨#[33]⟩) : ByteArray).size ≤ 71 := by rw [ByteArray.size_append]; show 1 + _ ≤ _; omega
          have zW1 : (WS ++ ⟨#[33]⟩).size ≤ 70 := by rw [ByteArray.size_append]; show _ + 1 ≤ _; omega
          go_wp2_with fail
          go_roundw
          case rel =>
            exact ⟨j + 1, WS, S, by omega, rfl, by go_num, HW.out, Lib.hid (fact_nk HJ.out HI.out), by refine ⟨?_, ?_⟩ <;> ((try simp only [ByteArray.size_append, sz33, sz91, sz93]); omega)⟩
          case measure => simp [intOf]; omega
      · have hdl : decide ((j : Int) < (len : Int)) = true := decide_eq_true (by omega)
        have hzl := HZ.out
        obtain ⟨b, off, rfl, hcell⟩ := hr (by omega)
        have hx : zs[j]? = some (zs.getD j false) := by rw [List.getD_eq_getElem?_getD, List.getElem?_eq_getElem (by omega)]; rfl
        have hcx0 := hcell j _ hx
        have hcx := (hbel.cell (p := ⟨b, off + j, none⟩) (cell_lt hcx0)).trans hcx0
        have hbne := cell_lt hcx0
        clear hcell hx hr hbel hcx0
        cases hbit : zs.getD j false with
        | true =>
          rw [hbit] at hcx
          clear hbit hzl
          by_cases hk : j < u
          · have hdk : decide ((j : Int) < (u : Int)) = true := decide_eq_true (by omega)
            have HJ := Lib.hid hk
            have zS1 : (S ++ ⟨#[33]⟩).size ≤ 70 := by rw [ByteArray.size_append]; show _ + 1 ≤ _; omega
            have zS2 : (⟨#[91]⟩ ++ S : ByteArray).size ≤ 70 := by rw [ByteArray.size_append]; show 1 + _ ≤ _; omega
            have zS3 : (⟨#[91]⟩ ++ (S ++ ⟨#[33]⟩) : ByteArray).size ≤ 71 := by rw [ByteArray.size_append]; show 1 + _ ≤ _; omega
            have zW1 : (WS ++ ⟨#[33]⟩).size ≤ 70 := by rw [ByteArray.size_append]; show _ + 1 ≤ _; omega
            go_wp2_with fail
            go_roundw
            case rel =>
              exact ⟨j + 1, (WS ++ ⟨#[33]⟩) ++ ⟨#[93]⟩, (⟨#[91]⟩ ++ (S ++ ⟨#[33]⟩)) ++ ⟨#[93]⟩, by omega, rfl, by go_num, ((HW.out.set _).set _), Lib.hid (fact_b HJ.out HI.out), by refine ⟨?_, ?_⟩ <;> ((try simp only [ByteArray.size_append, sz33, sz91, sz93]); omega)⟩
            case measure => simp [intOf]; omega
          · have hdk : decide ((j : Int) < (u : Int)) = false := decide_eq_false (by omega)
            have HJ := Lib.hid (show j = u by omega)
            have zS1 : (S ++ ⟨#[33]⟩).size ≤ 70 := by rw [ByteArray.size_append]; show _ + 1 ≤ _; omega
            have zS2 : (⟨#[91]⟩ ++ S : ByteArray).size ≤ 70 := by rw [ByteArray.size_append]; show 1 + _ ≤ _; omega
            have zS3 : (⟨#[91]⟩ ++ (S ++ ⟨#[33]⟩) : ByteArray).size ≤ 71 := by rw [ByteArray.size_append]; show 1 + _ ≤ _; omega
            have zW1 : (WS ++ ⟨#[33]⟩).size ≤ 70 := by rw [ByteArray.size_append]; show _ + 1 ≤ _; omega
            go_wp2_with fail
            go_roundw
            case rel =>
              exact ⟨j + 1, WS ++ ⟨#[33]⟩, S ++ ⟨#[33]⟩, by omega, rfl, by go_num, (HW.out.set _), Lib.hid (fact_bk HJ.out HI.out), by refine ⟨?_, ?_⟩ <;> ((try simp only [ByteArray.size_append, sz33, sz91, sz93]); omega)⟩
            case measure => simp [intOf]; omega
        | false =>
          rw [hbit] at hcx
          clear hbit hzl
          by_cases hk : j < u
          · have hdk : decide ((j : Int) < (u : Int)) = true := decide_eq_true (by omega)
            have HJ := Lib.hid hk
            have zS1 : (S ++ ⟨#[33]⟩).size ≤ 70 := by rw [ByteArray.size_append]; show _ + 1 ≤ _; omega
            have zS2 : (⟨#[91]⟩ ++ S : ByteArray).size ≤ 70 := by rw [ByteArray.size_append]; show 1 + _ ≤ _; omega
            have zS3 : (⟨#[91]⟩ ++ (S ++ ⟨#[33]⟩) : ByteArray).size ≤ 71 := by rw [ByteArray.size_append]; show 1 + _ ≤ _; omega
            have zW1 : (WS ++ ⟨#[33]⟩).size ≤ 70 := by rw [ByteArray.size_append]; show _ + 1 ≤ _; omega
            go_wp2_with fail
            go_roundw
            case rel =>
              exact ⟨j + 1, WS ++ ⟨#[93]⟩, (⟨#[91]⟩ ++ S) ++ ⟨#[93]⟩, by omega, rfl, by go_num, (HW.out.set _), Lib.hid (fact_n HJ.out HI.out), by refine ⟨?_, ?_⟩ <;> ((try simp only [ByteArray.size_append, sz33, sz91, sz93]); omega)⟩
            case measure => simp [intOf]; omega
          · have hdk : decide ((j : Int) < (u : Int)) = false := decide_eq_false (by omega)
            have HJ := Lib.hid (show j = u by omega)
            have zS1 : (S ++ ⟨#[33]⟩).size ≤ 70 := by rw [ByteArray.size_append]; show _ + 1 ≤ _; omega
            have zS2 : (⟨#[91]⟩ ++ S : ByteArray).size ≤ 70 := by rw [ByteArray.size_append]; show 1 + _ ≤ _; omega
            have zS3 : (⟨#[91]⟩ ++ (S ++ ⟨#[33]⟩) : ByteArray).size ≤ 71 := by rw [ByteArray.size_append]; show 1 + _ ≤ _; omega
            have zW1 : (WS ++ ⟨#[33]⟩).size ≤ 70 := by rw [ByteArray.size_append]; show _ + 1 ≤ _; omega
            go_wp2_with fail
            go_roundw
            case rel =>
              exact ⟨j + 1, WS, S, by omega, rfl, by go_num, HW.out, Lib.hid (fact_nk HJ.out HI.out), by refine ⟨?_, ?_⟩ <;> ((try simp only [ByteArray.size_append, sz33, sz91, sz93]); omega)⟩
            case measure => simp [intOf]; omega
    · have hd : decide ((j : Int) ≤ (u : Int)) = false := decide_eq_false (by omega)
      obtain rfl : j = u + 1 := by omega
      obtain ⟨hS, hwr, _, hct⟩ := HI.out
      have hcnt := hct (by omega)
      have hTl : (tyText [84] (vbl WS)).length ≤ 100 := by rw [← hS]; show S.size ≤ 100; omega
      obtain ⟨ts, hst, hlx⟩ := ty_lex (X := S) (n := [84]) (ws := vbl WS) (tl := []) (tk := []) (by decide) hwr (by rw [hS, List.append_nil]) (by rw [List.append_nil]; omega) (fun c hc => by simp at hc) (fun a acc => ⟨[], rfl, by rw [lxG_nil, List.append_nil]⟩)
      have htl : ts.length = cnt93 (vbl WS) + 1 + (vbl WS).length := by rw [← List.length_map (f := strip), hst, List.append_nil, tk_len]
      have hvl : (vbl WS).length = WS.size := rfl
      have htz : ∀ t ∈ ts, t.s.length ≤ 1000000 := fun t ht => tk_small (n := [84]) (ws := vbl WS) (by decide) (strip t) (by
        have : strip t ∈ ts.map strip := List.mem_map.2 ⟨t, ht, rfl⟩
        rwa [hst, List.append_nil] at this)
      have HA := fun W => lex_toks hlx (by omega) W (by omega)
      have HST := Lib.hid hst
      have HTZ := Lib.hid htz
      have hS2 : (⟨(tyText [84] (vbl WS)).toArray⟩ : ByteArray) = S := (of_vbl hS).symm
      have HS2 := Lib.hid hS2
      have HWR := Lib.hid hwr
      have HCN := Lib.hid hcnt
      have htsb : ts.length ≤ 200 := by omega
      obtain ⟨hbel, _, c0, c1, fz⟩ := hw
      clear hS hwr hct hlx hst htz hS2 hcnt hTl htl hbel hr
      go_wp2_with fail
      refine (HA _).mono ?_
      rintro e w1 ⟨b1, g, cp1, rfl, hcap, hg1, hg2, hc1⟩
      have hw1 := HW.out.keep b1
      have HW1 := Lib.hid hw1
      by_cases h12 : u ≤ 12
      · have e12 : decide ((u : Int) ≤ 12) = true := decide_eq_true (by omega)
        have HV := type_some (a := some ⟨g, 0, none⟩) (nm := ⟨#[84]⟩) (ws := WS) (tl := []) w1 (fun _ => ⟨g, rfl, hc1⟩) hcap (by omega) HTZ.out HST.out HWR.out (by rw [HCN.out]; exact h12) (by rfl)
        have hok : tyOk (vbl ⟨#[84]⟩) (vbl WS) = true := by
          unfold tyOk
          rw [HWR.out, HCN.out, decide_eq_true h12]; rfl
        have HCK := fun W (h : Bw w W WS) => checkType_any ⟨#[84]⟩ WS W (by decide) (by omega) (at_maxlen HM.out h.bel)
        rw [hok] at HCK
        have HTX := fun W (h : Bw w W WS) => typeText_any ⟨#[84]⟩ WS W (by decide) (by omega) (at_maxlen HM.out h.bel)
        have htb : tyTextB (vbl ⟨#[84]⟩) (vbl WS) = tyText [84] (vbl WS) := by unfold tyTextB; rw [hok]; rfl
        unfold StrBelow at HTX
        rw [htb, HS2.out] at HTX
        have hz2 : (WS ++ ⟨#[33, 33]⟩).size ≤ 60 := by rw [ByteArray.size_append]; show _ + 2 ≤ _; omega
        have hno : tyOk (vbl ⟨#[84]⟩) (vbl (WS ++ ⟨#[33, 33]⟩)) = false := by
          rw [vbl_append]
          unfold tyOk
          show (nameB [84] && (wrOk (vbl WS ++ [33, 33]) && _)) = false
          rw [wr_two, Bool.false_and, Bool.and_false]
        have HC2 := fun W (h : Bw w W WS) => checkType_any ⟨#[84]⟩ (WS ++ ⟨#[33, 33]⟩) W (by decide) (by omega) (at_maxlen HM.out h.bel)
        rw [hno] at HC2
        have HAW := vAwake
        clear hc1 HA b1 hok htb hno hw1 c0 c1 fz
        go_wp2_with fail
        refine HV.mono ?_
        rintro e w2 ⟨b2, rfl⟩
        have hw2 := HW1.out.keep b2
        have hw3 := hw2.keep ((Below.refl _ w2).alloc (Nat.le_refl _) (.cells #[.string ⟨#[84]⟩, .string WS] 27))
        have hlt2 := hw2.lt
        have HW3 := Lib.hid hw3
        obtain ⟨_, _, c0, c1, fz⟩ := hw2
        have hub : ∀ W, Below (w2.alloc (.cells #[.string ⟨#[84]⟩, .string WS] 27)).heap.size (w2.alloc (.cells #[.string ⟨#[84]⟩, .string WS] 27)) W → W.cell? ⟨w2.heap.size, 0, none⟩ = some (.string ⟨#[84]⟩) ∧ W.cell? ⟨w2.heap.size, 1, none⟩ = some (.string WS) := fun W hW => by
          have hk : W.heap[w2.heap.size]? = some (.cells #[.string ⟨#[84]⟩, .string WS] 27 (0, 0)) := (hW.block _ (by simp)).trans (heap_alloc_new _ _)
          exact ⟨Lib.cell_of_heap hk 0, Lib.cell_of_heap hk 1⟩
        have HUB := Lib.hid hub
        have k3 := HCK _ hw3
        clear hub HV b2 hw3
        go_wp2_with fail
        refine k3.mono ?_
        rintro e w4 ⟨rfl, b4⟩
        obtain ⟨d0, d1⟩ := HUB.out w4 b4
        have hw4 := HW3.out.keep b4
        have HW4 := Lib.hid hw4
        have B4 := Lib.hid b4
        have k4 := HTX _ hw4
        obtain ⟨_, _, f0, f1, fz4⟩ := hw4
        clear k3 b4
        go_wp2_with fail
        refine k4.mono ?_
        rintro e w5 ⟨rfl, b5⟩
        have hw5 := HW4.out.keep b5
        have HW5 := Lib.hid hw5
        have k5 := HC2 _ hw5
        obtain ⟨_, _, g0, g1, fz5⟩ := hw5
        clear k4 b5
        go_wp2_with fail
        refine k5.mono ?_
        rintro e w6 ⟨rfl, b6⟩
        have hw6 := HW5.out.keep b6
        have HB6 := Lib.hid hw6.bel
        clear k5 b6 hw6
        go_wp2_with fail
        refine (HAW _).mono ?_
        rintro e w7 ⟨rfl, b7⟩
        go_wp2_with fail
        go_ret
        exact ⟨rfl, HB6.out.trans (b7.mono HB6.out.size)⟩
      · have e12 : decide ((u : Int) ≤ 12) = false := decide_eq_false (by omega)
        have HV := type_none (a := some ⟨g, 0, none⟩) (n := [84]) (ws := vbl WS) w1 (fun _ => ⟨g, rfl, hc1⟩) hcap (by omega) HTZ.out (by have := HST.out; rwa [List.append_nil] at this) (by rw [HCN.out]; omega)
        have hok : tyOk (vbl ⟨#[84]⟩) (vbl WS) = false := by
          unfold tyOk
          rw [HCN.out, decide_eq_false h12, Bool.and_false, Bool.and_false]
        have HCK := fun W (h : Bw w W WS) => checkType_any ⟨#[84]⟩ WS W (by decide) (by omega) (at_maxlen HM.out h.bel)
        rw [hok] at HCK
        have HTX := fun W (h : Bw w W WS) => typeText_any ⟨#[84]⟩ WS W (by decide) (by omega) (at_maxlen HM.out h.bel)
        have htb : tyTextB (vbl ⟨#[84]⟩) (vbl WS) = [] := by unfold tyTextB; rw [hok]; rfl
        unfold StrBelow at HTX
        rw [htb] at HTX
        have HAW := vAwake
        clear hc1 HA b1 hok htb hw1 c0 c1 fz
        go_wp2_with fail
        refine HV.mono ?_
        rintro e w2 ⟨b2, rfl⟩
        have hw2 := HW1.out.keep b2
        have hw3 := hw2.keep ((Below.refl _ w2).alloc (Nat.le_refl _) (.cells #[.string ⟨#[]⟩, .string ⟨#[]⟩] 27))
        have hlt2 := hw2.lt
        have HW3 := Lib.hid hw3
        obtain ⟨_, _, c0, c1, fz⟩ := hw2
        have hub : ∀ W, Below (w2.alloc (.cells #[.string ⟨#[]⟩, .string ⟨#[]⟩] 27)).heap.size (w2.alloc (.cells #[.string ⟨#[]⟩, .string ⟨#[]⟩] 27)) W → W.cell? ⟨w2.heap.size, 0, none⟩ = some (.string ⟨#[]⟩) := fun W hW => by
          have hk : W.heap[w2.heap.size]? = some (.cells #[.string ⟨#[]⟩, .string ⟨#[]⟩] 27 (0, 0)) := (hW.block _ (by simp)).trans (heap_alloc_new _ _)
          exact Lib.cell_of_heap hk 0
        have HUB := Lib.hid hub
        have k3 := HCK _ hw3
        clear hub HV b2 hw3
        go_wp2_with fail
        refine k3.mono ?_
        rintro e w4 ⟨rfl, b4⟩
        have d0 := HUB.out w4 b4
        have hw4 := HW3.out.keep b4
        have HW4 := Lib.hid hw4
        have k4 := HTX _ hw4
        obtain ⟨_, _, f0, f1, fz4⟩ := hw4
        clear k3 b4
        go_wp2_with fail
        refine k4.mono ?_
        rintro e w5 ⟨rfl, b5⟩
        have hw5 := HW4.out.keep b5
        have HB5 := Lib.hid hw5.bel
        clear k4 b5 hw5
        go_wp2_with fail
        refine (HAW _).mono ?_
        rintro e w7 ⟨rfl, b7⟩
        go_wp2_with fail
        go_ret
        exact ⟨rfl, HB5.out.trans (b7.mono HB5.out.size)⟩

end Go.Proofs.YtiblffipfldgjaaGreatDoor

/-
  What refectoryref01.rune1 and Valid answer.
-/
namespace Go.Proofs.YtiblffipfldgjaaGreatDoor
open Go.RowKit
open Go.Lib (decodeN decode_at decodeL_drop)

/-- The code point at a place and its bytes; (0, 0): none that is right. -/
def r1 (s : ByteArray) (i : Nat) : Nat × Nat := if badAt (s.data.toList.drop i) then (0, 0) else Utf8.decode s i

/-- The value behind k further bytes. -/
def vAt (s : ByteArray) (i v0 : Nat) : Nat → Nat
  | 0 => v0
  | k + 1 => vAt s i v0 k * 64 + (s.get! (i + (k + 1))).toNat % 64

def Tup (a b : Int) (w : World) (e : Ending) (w' : World) : Prop := e = .returned (.tuple #[.int .i64 a, .int .i64 b]) ∧ w = w'

theorem get_eq (s : ByteArray) (i : Nat) (h : i < s.size) : s.get! i = s[i] := by
  simp [ByteArray.get!, getElem!_pos, h]
  rfl

theorem vAt_le (s : ByteArray) (i v0 : Nat) (h : v0 ≤ 31) : ∀ k, k ≤ 3 → vAt s i v0 k ≤ 10000000 := by
  intro k hk
  have h' : k = 0 ∨ k = 1 ∨ k = 2 ∨ k = 3 := by omega
  have b1 : (s.get! (i + (0 + 1))).toNat % 64 < 64 := Nat.mod_lt _ (by omega)
  have b2 : (s.get! (i + (1 + 1))).toNat % 64 < 64 := Nat.mod_lt _ (by omega)
  have b3 : (s.get! (i + (2 + 1))).toNat % 64 < 64 := Nat.mod_lt _ (by omega)
  rcases h' with rfl | rfl | rfl | rfl <;> simp only [vAt] <;> omega

-- GEN
def by1 (s : ByteArray) (i k : Nat) : Nat := (s.get! (i + k)).toNat
theorem by1_lt (s : ByteArray) (i k : Nat) : by1 s i k < 256 := (s.get! (i + k)).toNat_lt
theorem by1_at (s : ByteArray) (i k : Nat) (h : i + k < s.size) : (s[i + k]'h).toNat = by1 s i k := by
  unfold by1; rw [get_eq s (i + k) h]
theorem by1_zero (s : ByteArray) (i : Nat) (h : i < s.size) : (s[i]'h).toNat = by1 s i 0 := by
  unfold by1; rw [Nat.add_zero, get_eq s i h]

theorem r1_N (s : ByteArray) (i : Nat) : r1 s i = if (decodeN (s.size - i) (by1 s i 0) (by1 s i 1) (by1 s i 2) (by1 s i 3)).1 = 65533 ∧ (decodeN (s.size - i) (by1 s i 0) (by1 s i 1) (by1 s i 2) (by1 s i 3)).2 = 1 then (0, 0) else decodeN (s.size - i) (by1 s i 0) (by1 s i 1) (by1 s i 2) (by1 s i 3) := by
  have e : Utf8.decode s i = decodeN (s.size - i) (by1 s i 0) (by1 s i 1) (by1 s i 2) (by1 s i 3) := decode_at s i
  unfold r1 badAt
  rw [decodeL_drop, e]
  split
  · rename_i h
    rw [if_pos (by simpa using h)]
  · rename_i h
    rw [if_neg (by simpa using h)]

theorem r1_bad (s : ByteArray) (i : Nat) (h : decodeN (s.size - i) (by1 s i 0) (by1 s i 1) (by1 s i 2) (by1 s i 3) = (65533, 1)) : r1 s i = (0, 0) := by
  rw [r1_N, h, if_pos ⟨rfl, rfl⟩]
theorem r1_good (s : ByteArray) (i v n : Nat) (h : decodeN (s.size - i) (by1 s i 0) (by1 s i 1) (by1 s i 2) (by1 s i 3) = (v, n)) (hv : 2 ≤ n) : r1 s i = (v, n) := by
  rw [r1_N, h, if_neg (by simp only; omega)]

theorem vAt1 (s : ByteArray) (i v0 : Nat) : vAt s i v0 1 = v0 * 64 + by1 s i 1 % 64 := rfl
theorem vAt2 (s : ByteArray) (i v0 : Nat) : vAt s i v0 2 = (v0 * 64 + by1 s i 1 % 64) * 64 + by1 s i 2 % 64 := rfl
theorem vAt3 (s : ByteArray) (i v0 : Nat) : vAt s i v0 3 = ((v0 * 64 + by1 s i 1 % 64) * 64 + by1 s i 2 % 64) * 64 + by1 s i 3 % 64 := rfl

/-- A further byte that is none. -/
theorem bad_cont (m b0 b1 b2 b3 : Nat) (h0 : 128 ≤ b0) (h : (194 ≤ b0 ∧ b0 ≤ 223 ∧ (m < 2 ∨ b1 / 64 ≠ 2)) ∨ (224 ≤ b0 ∧ b0 ≤ 239 ∧ (m < 3 ∨ b1 / 64 ≠ 2 ∨ b2 / 64 ≠ 2)) ∨ (240 ≤ b0 ∧ b0 ≤ 247 ∧ (m < 4 ∨ b1 / 64 ≠ 2 ∨ b2 / 64 ≠ 2 ∨ b3 / 64 ≠ 2)) ∨ b0 < 192 ∨ 248 ≤ b0) : decodeN m b0 b1 b2 b3 = (65533, 1) := by
  unfold decodeN
  rw [if_neg (by omega), if_neg (by omega), if_neg (by omega), if_neg (by omega)]

theorem good2 (m b0 b1 b2 b3 : Nat) (h : 194 ≤ b0 ∧ b0 ≤ 223) (hm : 2 ≤ m) (c1 : b1 / 64 = 2) : decodeN m b0 b1 b2 b3 = (b0 % 32 * 64 + b1 % 64, 2) := by
  unfold decodeN
  rw [if_neg (by omega), if_pos (by omega), if_pos (by omega)]
theorem low2 (m b0 b1 b2 b3 : Nat) (h : 192 ≤ b0 ∧ b0 < 194) : decodeN m b0 b1 b2 b3 = (65533, 1) := by
  unfold decodeN
  rw [if_neg (by omega)]
  by_cases c : b0 / 32 = 6 ∧ (1 < m ∧ b1 / 64 = 2)
  · rw [if_pos c, if_neg (by omega)]
  · rw [if_neg c, if_neg (by omega), if_neg (by omega)]
theorem good3 (m b0 b1 b2 b3 : Nat) (h : 224 ≤ b0 ∧ b0 ≤ 239) (hm : 3 ≤ m) (c1 : b1 / 64 = 2) (c2 : b2 / 64 = 2) : decodeN m b0 b1 b2 b3 = if 2048 ≤ (b0 % 16 * 64 + b1 % 64) * 64 + b2 % 64 ∧ ¬ (55296 ≤ (b0 % 16 * 64 + b1 % 64) * 64 + b2 % 64 ∧ (b0 % 16 * 64 + b1 % 64) * 64 + b2 % 64 ≤ 57343) then ((b0 % 16 * 64 + b1 % 64) * 64 + b2 % 64, 3) else (65533, 1) := by
  unfold decodeN
  rw [if_neg (by omega), if_neg (by omega), if_pos (by omega)]
  have e : b0 % 16 * 4096 + b1 % 64 * 64 + b2 % 64 = (b0 % 16 * 64 + b1 % 64) * 64 + b2 % 64 := by omega
  rw [e]
  by_cases c : 2048 ≤ (b0 % 16 * 64 + b1 % 64) * 64 + b2 % 64 ∧ ¬ (55296 ≤ (b0 % 16 * 64 + b1 % 64) * 64 + b2 % 64 ∧ (b0 % 16 * 64 + b1 % 64) * 64 + b2 % 64 ≤ 57343)
  · rw [if_pos (by omega), if_pos c]
  · rw [if_neg (by omega), if_neg c]
theorem good4 (m b0 b1 b2 b3 : Nat) (h : 240 ≤ b0 ∧ b0 ≤ 247) (hm : 4 ≤ m) (c1 : b1 / 64 = 2) (c2 : b2 / 64 = 2) (c3 : b3 / 64 = 2) : decodeN m b0 b1 b2 b3 = if 65536 ≤ ((b0 % 8 * 64 + b1 % 64) * 64 + b2 % 64) * 64 + b3 % 64 ∧ ((b0 % 8 * 64 + b1 % 64) * 64 + b2 % 64) * 64 + b3 % 64 ≤ 1114111 then (((b0 % 8 * 64 + b1 % 64) * 64 + b2 % 64) * 64 + b3 % 64, 4) else (65533, 1) := by
  unfold decodeN
  rw [if_neg (by omega), if_neg (by omega), if_neg (by omega), if_pos (by omega)]
  have e : b0 % 8 * 262144 + b1 % 64 * 4096 + b2 % 64 * 64 + b3 % 64 = ((b0 % 8 * 64 + b1 % 64) * 64 + b2 % 64) * 64 + b3 % 64 := by omega
  rw [e]
  by_cases c : 65536 ≤ ((b0 % 8 * 64 + b1 % 64) * 64 + b2 % 64) * 64 + b3 % 64 ∧ ((b0 % 8 * 64 + b1 % 64) * 64 + b2 % 64) * 64 + b3 % 64 ≤ 1114111
  · rw [if_pos (by omega), if_pos c]
  · rw [if_neg (by omega), if_neg c]

theorem m192 (b : Nat) (h : b < 256) : bits .and .u8 (b : Int) 192 = ((b / 64 * 64 : Nat) : Int) := by
  have e := u8_and_nat b 192 h (by omega)
  rw [nat_hi8_6, Nat.mod_eq_of_lt h] at e
  exact e
theorem m63 (b : Nat) (h : b < 256) : bits .and .u8 (b : Int) 63 = ((b % 64 : Nat) : Int) := by
  have e := u8_and_nat b 63 h (by omega)
  rw [nat_mask6] at e
  exact e
theorem mOr (v b : Nat) (hv : v ≤ 10000000) (hb : b < 64) : bits .or .i64 ((v : Int) * 64) (b : Int) = ((v * 64 + b : Nat) : Int) := by
  rw [bits_join .i64 40 (by decide) (fun n h0 h1 => by rw [IntKind.wrap_i64]; omega) 6 _ _ (by omega) (by omega) (by omega) (by omega) (by omega) (by omega)]
  omega
theorem mMask (n : Int) : bits .and .i64 n 31 = n % 32 ∧ bits .and .i64 n 15 = n % 16 ∧ bits .and .i64 n 7 = n % 8 := by
  have key : ∀ k : Nat, k ≤ 8 → ∀ m : Int, (BitVec.ofInt 64 m).toNat = 2 ^ k - 1 → bits .and .i64 n m = n % 2 ^ k := by
    intro k hk m hm
    have e : (BitVec.ofInt 64 n &&& BitVec.ofInt 64 m).toNat = (n % ((2 ^ 64 : Nat) : Int)).toNat % 2 ^ k := by
      rw [BitVec.toNat_and, BitVec.toNat_ofInt, hm, Nat.and_two_pow_sub_one_eq_mod]
    show IntKind.i64.wrap ((BitVec.ofInt 64 n &&& BitVec.ofInt 64 m).toNat : Nat) = n % 2 ^ k
    rw [e, IntKind.wrap_i64]
    have h' : k = 0 ∨ k = 1 ∨ k = 2 ∨ k = 3 ∨ k = 4 ∨ k = 5 ∨ k = 6 ∨ k = 7 ∨ k = 8 := by omega
    rcases h' with rfl | rfl | rfl | rfl | rfl | rfl | rfl | rfl | rfl <;> omega
  exact ⟨key 5 (by omega) 31 (by decide), key 4 (by omega) 15 (by decide), key 3 (by omega) 7 (by decide)⟩

theorem tup_mk {a b : Nat} {p : Nat × Nat} (w : World) (h : p = (a, b)) : Tup p.1 p.2 w (.returned (.tuple #[.int .i64 a, .int .i64 b])) w := by
  subst h; exact ⟨rfl, rfl⟩

end Go.Proofs.YtiblffipfldgjaaGreatDoor

/-
  What refectoryref01.Valid and Digit answer.
-/
namespace Go.Proofs.YtiblffipfldgjaaGreatDoor
open Go.RowKit

theorem r1_zero (s : ByteArray) (i : Nat) : (r1 s i).2 = 0 ↔ badAt (s.data.toList.drop i) = true := by
  unfold r1
  split
  · rename_i h; simp [h]
  · rename_i h
    have hw : 1 ≤ (Utf8.decode s i).2 := by rw [← Lib.decodeL_drop]; exact Lib.decodeL_width _
    simp only [h]
    constructor
    · intro e; omega
    · intro e; cases e

end Go.Proofs.YtiblffipfldgjaaGreatDoor

/-
  What refectoryref01.escape and Quote answer.
-/
namespace Go.Proofs.YtiblffipfldgjaaGreatDoor
open Go.RowKit

def escOf (c : Int) : Int := if c = 8 then 98 else if c = 9 then 116 else if c = 10 then 110 else if c = 12 then 102 else if c = 13 then 114 else 0

theorem ret_u8 {a b : Int} (h : a = b) : Ending.returned (.int .u8 a) = .returned (.int .u8 b) := by rw [h]

theorem letOf_esc (c : Int) (h1 : c ≠ 34) (h2 : c ≠ 92) : letOf c = escOf c := by
  unfold letOf escOf
  rw [if_neg (by omega)]

/-- One byte of the text, quoted, as the page's own answer lays it on. -/
def escS (s : ByteArray) (pos : Nat) : ByteArray := ⟨(escB (s.get! pos)).toArray⟩

theorem esc_same (s : ByteArray) (pos : Nat) (h : pos < s.size) (hc : s[pos] = 34 ∨ s[pos] = 92) : bl (⟨#[92]⟩ ++ s.extract pos (pos + 1)) = escB s[pos] := by
  show (_ ++ _ : ByteArray).data.toList = _
  rw [app_list, ext_one s pos h]
  rcases hc with hc | hc <;> rw [hc] <;> rfl

theorem quote_take (s : ByteArray) (pos : Nat) (h : pos < s.size) : quoteIn (s.data.toList.take (pos + 1)) = quoteIn (s.data.toList.take pos) ++ escB s[pos] := by
  unfold quoteIn
  rw [take_next s.data.toList pos s[pos] (by rw [List.getElem?_eq_getElem (by simpa using h)]; rfl), List.flatMap_append]
  simp

theorem escB_len (b : UInt8) : (escB b).length ≤ 6 := by
  unfold escB
  split
  · simp
  · split <;> simp

theorem esc_hex (b : UInt8) (h0 : letOf b.toNat = 0) (h : b.toNat < 32 ∨ b.toNat = 127) : bl (⟨#[92, 117, 48, 48]⟩ ++ hexS.extract (b.toNat / 16) (b.toNat / 16 + 1) ++ hexS.extract (b.toNat % 16) (b.toNat % 16 + 1)) = escB b := by
  have e : escB b = [92, 117, 48, 48, hexD (b.toNat / 16), hexD (b.toNat % 16)] := by
    unfold escB
    rw [if_neg (by simpa using h0), if_pos h]
  have hz : hexS.size = 16 := rfl
  rw [e]
  show (_ ++ _ ++ _ : ByteArray).data.toList = _
  rw [app_list, app_list, ext_one hexS _ (by omega), ext_one hexS _ (by omega)]
  have k1 := hex_at (b.toNat / 16) (by omega)
  have k0 := hex_at (b.toNat % 16) (by omega)
  rw [UInt8.toNat_inj.1 k1, UInt8.toNat_inj.1 k0]
  rfl
theorem esc_plain (s : ByteArray) (pos : Nat) (hp : pos < s.size) (h0 : letOf s[pos].toNat = 0) (h : ¬ (s[pos].toNat < 32 ∨ s[pos].toNat = 127)) : bl (s.extract pos (pos + 1)) = escB s[pos] := by
  have e : escB s[pos] = [s[pos]] := by
    unfold escB
    rw [if_neg (by simpa using h0), if_neg h]
  rw [e]
  exact ext_one s pos hp
theorem esc_let (b : UInt8) (h0 : letOf b.toNat ≠ 0) (he : letOf b.toNat = escOf b.toNat) : bl (⟨#[92]⟩ ++ ⟨#[UInt8.ofNat (escOf b.toNat).toNat]⟩) = escB b := by
  have e : escB b = [92, UInt8.ofNat (letOf b.toNat).toNat] := by
    unfold escB
    rw [if_pos h0]
  rw [e, he]
  exact two_list _ _
theorem of_bl (T : ByteArray) (l : List UInt8) (h : T.data.toList = l) : T = ⟨l.toArray⟩ := by
  subst h
  rfl
theorem slice_u8 (d : Nat) (hd : d < 16) (w : World) : (Instr.slice 9 (.string ⟨#[48, 49, 50, 51, 52, 53, 54, 55, 56, 57, 97, 98, 99, 100, 101, 102]⟩) (some (.int .u8 (d : Int))) (some (.int .u8 ((d : Int) + 1))) none).run Tryz.prog w = .ok (.string (hexS.extract d (d + 1))) w := by
  have hz : hexS.size = 16 := rfl
  rw [run_slice_string_if _ _ _ _ _ _ _ Tryz.underlying9, if_pos (by show _ ∧ _ ≤ (hexS.size : Int); omega), if_pos (by omega)]
  have e : ((d : Int) + 1).toNat = d + 1 := by omega
  rw [e]
  rfl

/-- The loop's relation in the page's Quote. -/
def RQ (s : ByteArray) (w : World) (a i : Value) (wr : World) : Prop :=
  ∃ (pos : Nat) (S : ByteArray), pos ≤ s.size ∧ i = .int .i64 pos ∧ a = .string S ∧ bl S = 34 :: quoteIn (s.data.toList.take pos) ∧ Below w.heap.size w wr

theorem bl_size (S : ByteArray) : S.size = (bl S).length := rfl
theorem bl_app (a b : ByteArray) : bl (a ++ b) = bl a ++ bl b := app_list a b

end Go.Proofs.YtiblffipfldgjaaGreatDoor

/-
  JvalAll, bounded: what the document's digits answers.
-/
namespace Go.Proofs.YtiblffipfldgjaaGreatDoor
open Go.RowKit

def ndL (l : List UInt8) : Nat := (l.takeWhile digU).length
theorem ndL_cons (a : UInt8) (t : List UInt8) : ndL (a :: t) = if digU a = true then ndL t + 1 else 0 := by
  unfold ndL
  rw [List.takeWhile_cons]
  cases digU a <;> simp

end Go.Proofs.YtiblffipfldgjaaGreatDoor

/-
  JvalAll, bounded: what the document's names answers.
-/
namespace Go.Proofs.YtiblffipfldgjaaGreatDoor
open Go.RowKit

def NmOut (w : World) (ns : List ByteArray) (k : Nat) (v : Value) (wr : World) : Prop :=
  ∃ i m, k = ns.length - i ∧ i ≤ ns.length ∧ v = .int .i64 (i : Nat) ∧ wr = w.drewN m ∧ nmOk ns = nmGo ((ns.take i).map vbl) ((ns.drop i).map vbl)
def NmIn (w : World) (ns : List ByteArray) (i : Nat) (k : Nat) (v : Value) (wr : World) : Prop :=
  ∃ j m, k = i - j ∧ j ≤ i ∧ v = .int .i64 (j : Nat) ∧ wr = w.drewN m ∧ ∀ t (a b : ByteArray), t < j → ns[t]? = some a → ns[i]? = some b → a ≠ b

end Go.Proofs.YtiblffipfldgjaaGreatDoor

/-
  JvalAll, bounded: what refectorylaw02.Few answers.
-/
namespace Go.Proofs.YtiblffipfldgjaaGreatDoor
open Go.RowKit

def fewB : Nat → JV → Bool
  | 0, _ => false
  | d + 1, x => decide (x.ps.length ≤ 12) && decide (x.ns.length ≤ 12) && decide (x.s.size ≤ 100) && x.ns.all (fun n => decide (n.size ≤ 100)) && x.ps.all (fewB d)
def FewRel (m : Nat) (ps : List JV) (W1 : World) (i : Value) (wr : World) : Prop :=
  ∃ k : Nat, k ≤ ps.length ∧ i = .int .i64 k ∧ Below W1.heap.size W1 wr ∧ ps.all (fewB m) = (ps.drop k).all (fewB m)
theorem all_at {α : Type} (f : α → Bool) (l : List α) (k : Nat) (h : k < l.length) : (l.drop k).all f = (f l[k] && (l.drop (k + 1)).all f) := by
  rw [List.drop_eq_getElem_cons h, List.all_cons]

set_option maxHeartbeats 2000000 in
set_option maxRecDepth 100000 in
theorem few_any : ∀ (d : Nat), d ≤ 14 → ∀ (D : Int), D = d → ∀ (B n : Nat) (x : JV) (v : Value) (w : World), B ≤ w.heap.size → Rd w B n x v →
    Calls Tryz.prog 6 #[v, .int .i64 D] w (BoolBelow (fewB d x) w) := by
  intro d
  induction d with
  | zero =>
    intro _ D hD B n x v w hB h
    obtain ⟨an, cn, ap, cp, rfl⟩ := h.shape
    subst hD
    go_enter Tryz.func6, Tryz.ntmps6
    go_wp2_with fail
    go_ret
    exact boolBelow_of rfl ((Below.refl _ w).alloc (Nat.le_refl _) _)
  | succ d ih =>
    intro hd D hD B n x v w hB h
    match n, h with
    | n + 1, h =>
    obtain ⟨an, cn, ap, cp, rfl, ⟨z1, z2, z3, z4, z5⟩, hs, hr⟩ := h
    have HI := Lib.hid ih
    clear ih
    have HD : Hid (D - 1 = d) := Lib.hid (by omega)
    have hD0 : (D == 0) = false := by simp; omega
    have hD1 : 1 ≤ D := by omega
    have hD2 : D ≤ 14 := by omega
    clear hD
    have HB : Hid (fewB (d + 1) x = (decide (x.ps.length ≤ 12) && decide (x.ns.length ≤ 12) && decide (x.s.size ≤ 100) && x.ns.all (fun n => decide (n.size ≤ 100)) && x.ps.all (fewB d))) := Lib.hid rfl
    have hbA : ∀ o, Below w.heap.size w (w.alloc o) := fun o => (Below.refl _ w).alloc (Nat.le_refl _) o
    by_cases hps : 12 < x.ps.length
    · have HF : Hid (false = fewB (d + 1) x) := Lib.hid (by rw [HB.out, decide_eq_false (show ¬ x.ps.length ≤ 12 by omega)]; rfl)
      have e1 : decide ((12 : Int) < x.ps.length) = true := by simp; omega
      go_enter Tryz.func6, Tryz.ntmps6
      go_wp2_with fail
      go_ret
      exact boolBelow_of HF.out (hbA _)
    by_cases hns : 12 < x.ns.length
    · have HF : Hid (false = fewB (d + 1) x) := Lib.hid (by rw [HB.out, decide_eq_false (show ¬ x.ns.length ≤ 12 by omega)]; simp)
      have e1 : decide ((12 : Int) < x.ps.length) = false := by simp; omega
      have e2 : decide ((12 : Int) < x.ns.length) = true := by simp; omega
      go_enter Tryz.func6, Tryz.ntmps6
      go_wp2_with fail
      go_ret
      exact boolBelow_of HF.out (hbA _)
    by_cases hsz : 100 < x.s.size
    · have HF : Hid (false = fewB (d + 1) x) := Lib.hid (by rw [HB.out, decide_eq_false (show ¬ x.s.size ≤ 100 by omega)]; simp)
      have e1 : decide ((12 : Int) < x.ps.length) = false := by simp; omega
      have e2 : decide ((12 : Int) < x.ns.length) = false := by simp; omega
      have e3 : decide ((100 : Int) < x.s.size) = true := by simp; omega
      go_enter Tryz.func6, Tryz.ntmps6
      go_wp2_with fail
      go_ret
      exact boolBelow_of HF.out (hbA _)
    have HF : Hid (fewB (d + 1) x = (x.ns.all (fun n => decide (n.size ≤ 100)) && x.ps.all (fewB d))) := Lib.hid (by
      rw [HB.out, decide_eq_true (show x.ps.length ≤ 12 by omega), decide_eq_true (show x.ns.length ≤ 12 by omega), decide_eq_true (show x.s.size ≤ 100 by omega)]
      simp)
    clear HB
    have e1 : decide ((12 : Int) < x.ps.length) = false := by simp; omega
    have e2 : decide ((12 : Int) < x.ns.length) = false := by simp; omega
    have e3 : decide ((100 : Int) < x.s.size) = false := by simp; omega
    go_enter Tryz.func6, Tryz.ntmps6
    go_wp2_with fail
    clear e1 e2 e3
    go_loop [5] (fun v => ∃ k : Nat, k ≤ x.ns.length ∧ v = .int .i64 k ∧ Hid (x.ns.all (fun n => decide (n.size ≤ 100)) = (x.ns.drop k).all (fun n => decide (n.size ≤ 100)))) (fun v => x.ns.length - (intOf v).toNat)
    case atStart => exact ⟨0, Nat.zero_le _, rfl, Lib.hid rfl⟩
    case round =>
      obtain ⟨k, hk, rfl, HA⟩ := hrel
      by_cases hlt : k < x.ns.length
      · obtain ⟨b, off, rfl, hb, hc⟩ := hs (by omega)
        obtain ⟨hz, hci⟩ := hc k _ (List.getElem?_eq_getElem hlt)
        have HS := Lib.hid (all_at (fun n : ByteArray => decide (n.size ≤ 100)) x.ns k hlt)
        have hbw : b < w.heap.size := by omega
        have hbw2 : b ≠ w.heap.size := by omega
        clear hc hs hr
        generalize x.ns[k] = s at *
        by_cases h100 : 100 < s.size
        · have e1 : decide ((100 : Int) < s.size) = true := by simp; omega
          have HX : Hid (false = fewB (d + 1) x) := Lib.hid (by rw [HF.out, HA.out, HS.out, decide_eq_false (show ¬ s.size ≤ 100 by omega)]; rfl)
          go_wp2_with fail
          go_ret
          exact boolBelow_of HX.out (hbA _)
        · have e1 : decide ((100 : Int) < s.size) = false := by simp; omega
          go_wp2_with fail
          go_round
          case rel => exact ⟨k + 1, by omega, by go_num, Lib.hid (by rw [HA.out, HS.out, decide_eq_true (show s.size ≤ 100 by omega)]; simp)⟩
          case measure => simp [intOf]; omega
      · have HG : Hid (fewB (d + 1) x = x.ps.all (fewB d)) := Lib.hid (by rw [HF.out, HA.out, List.drop_of_length_le (by omega)]; rfl)
        clear HA hs
        go_wp2_with fail
        obtain ⟨W1, hW1⟩ : ∃ W1, W1 = w.alloc (.cells #[.int .i64 x.k, .string x.s, .slice an x.ns.length cn, .slice ap x.ps.length cp] 25) := ⟨_, rfl⟩
        rw [← hW1]
        have B1 : Below w.heap.size w W1 := by rw [hW1]; exact hbA _
        have s1 : W1.heap.size = w.heap.size + 1 := by rw [hW1]; simp
        have c1 : W1.cell? ⟨w.heap.size, 3, none⟩ = some (.slice ap x.ps.length cp) := by rw [hW1]; go_simp
        clear hW1 hbA
        go_loopw [6] (fun i wr => FewRel d x.ps W1 i wr) (fun i _ => x.ps.length - (intOf i).toNat)
        case atStart => exact ⟨0, Nat.zero_le _, rfl, Below.refl _ _, rfl⟩
        case round =>
          obtain ⟨k, hk, rfl, hbw, hall⟩ := hrel
          have HA := Lib.hid hall
          clear hall
          have c2 : wr.cell? ⟨w.heap.size, 3, none⟩ = some (.slice ap x.ps.length cp) := (hbw.cell (p := ⟨w.heap.size, 3, none⟩) (by show w.heap.size < _; omega)).trans c1
          have hws := hbw.size
          have BW := B1.trans (hbw.mono B1.size)
          by_cases hlt : k < x.ps.length
          · have HS := Lib.hid (all_at (fewB d) x.ps k hlt)
            obtain ⟨b, off, y, an', cn', ap', cp', HY, rfl, hb, hRr, g0, g1, g2, g3⟩ := hr.elem hlt (BW.mono hB)
            rw [HY.out] at HS
            clear hr HY c1
            have hih := HI.out (by omega) (D - 1) HD.out B n y _ wr (by omega) hRr
            cases hc : fewB d y with
            | false =>
              rw [hc] at hih HS
              clear hc
              go_wp2_with ((go_at_call 6); (with_reducible refine hih.mono ?_); rintro e w2 ⟨rfl, b2⟩)
              go_ret
              exact boolBelow_of (by rw [HG.out, HA.out, HS.out]; rfl) (BW.trans (b2.mono BW.size))
            | true =>
              rw [hc] at hih HS
              clear hc
              go_wp2_with ((go_at_call 6); (with_reducible refine hih.mono ?_); rintro e w2 ⟨rfl, b2⟩)
              go_roundw
              case rel => exact ⟨k + 1, by omega, by go_num, hbw.trans (b2.mono hws), by rw [HA.out, HS.out]; rfl⟩
              case measure => simp [intOf]; omega
          · go_wp2_with fail
            go_ret
            exact boolBelow_of (by rw [HG.out, HA.out, List.drop_of_length_le (by omega)]; rfl) BW

end Go.Proofs.YtiblffipfldgjaaGreatDoor

/-
  What the document's Same answers: are two values one?
-/
namespace Go.Proofs.YtiblffipfldgjaaGreatDoor
open Go.RowKit

noncomputable def eqB (x y : JV) : Bool := @decide (x = y) (Classical.propDecidable _)
theorem eqB_true {x y : JV} (h : x = y) : eqB x y = true := by unfold eqB; exact @decide_eq_true _ (Classical.propDecidable _) h
theorem eqB_false {x y : JV} (h : x ≠ y) : eqB x y = false := by unfold eqB; exact @decide_eq_false _ (Classical.propDecidable _) h
theorem eqB_eq {x y : JV} (h : eqB x y = true) : x = y := by unfold eqB at h; exact @of_decide_eq_true _ (Classical.propDecidable _) h
theorem JV.ext' {x y : JV} (h1 : x.k = y.k) (h2 : x.s = y.s) (h3 : x.ns = y.ns) (h4 : x.ps = y.ps) : x = y := by
  cases x; cases y
  simp only [JV.k, JV.s, JV.ns, JV.ps] at h1 h2 h3 h4
  subst h1 h2 h3 h4
  rfl
theorem bytes_ext {a b : ByteArray} (h : a.toList = b.toList) : a = b := by
  rw [Lib.toList_data, Lib.toList_data] at h
  cases a; cases b
  exact congrArg ByteArray.mk (Array.toList_inj.1 h)
theorem drewN_below (w : World) (m : Nat) : Below w.heap.size w (w.drewN m) := ⟨rfl, rfl, rfl, Nat.le_refl _, fun _ _ => rfl⟩

def SameIs (x y : JV) (w : World) (e : Ending) (w' : World) : Prop := e = .returned (.bool (eqB x y)) ∧ Below w.heap.size w w'

def SNames (W : World) (x y : JV) (k : Nat) (v : Value) (wr : World) : Prop :=
  ∃ i m, k = x.ns.length - i ∧ i ≤ x.ns.length ∧ v = .int .i64 (i : Nat) ∧ wr = W.drewN m ∧ ∀ t, t < i → x.ns[t]? = y.ns[t]?
def SParts (W : World) (x y : JV) (k : Nat) (v : Value) (wr : World) : Prop :=
  ∃ i, k = x.ps.length - i ∧ i ≤ x.ps.length ∧ v = .int .i64 (i : Nat) ∧ Below W.heap.size W wr ∧ ∀ t, t < i → x.ps[t]? = y.ps[t]?

theorem lists_ext {α : Type} {a b : List α} (hl : a.length = b.length) (h : ∀ t, t < a.length → a[t]? = b[t]?) : a = b := by
  refine List.ext_getElem? fun t => ?_
  by_cases ht : t < a.length
  · exact h t ht
  · rw [List.getElem?_eq_none (by omega), List.getElem?_eq_none (by omega)]

/-- The two boxes. -/
structure Two (W : World) (A : Nat) (x y : JV) (an : Option Addr) (cn : Nat) (ap : Option Addr) (cp : Nat) (an' : Option Addr) (cn' : Nat) (ap' : Option Addr) (cp' : Nat) : Prop where
  a0 : W.cell? ⟨A, 0, none⟩ = some (.int .i64 x.k)
  a1 : W.cell? ⟨A, 1, none⟩ = some (.string x.s)
  a2 : W.cell? ⟨A, 2, none⟩ = some (.slice an x.ns.length cn)
  a3 : W.cell? ⟨A, 3, none⟩ = some (.slice ap x.ps.length cp)
  b0 : W.cell? ⟨A + 1, 0, none⟩ = some (.int .i64 y.k)
  b1 : W.cell? ⟨A + 1, 1, none⟩ = some (.string y.s)
  b2 : W.cell? ⟨A + 1, 2, none⟩ = some (.slice an' y.ns.length cn')
  b3 : W.cell? ⟨A + 1, 3, none⟩ = some (.slice ap' y.ps.length cp')
theorem Two.below {W W' : World} {A : Nat} {x y : JV} {an : Option Addr} {cn : Nat} {ap : Option Addr} {cp : Nat} {an' : Option Addr} {cn' : Nat} {ap' : Option Addr} {cp' : Nat} (h : Two W A x y an cn ap cp an' cn' ap' cp') {n : Nat} (hb : Below n W W') (hn : A + 2 ≤ n) : Two W' A x y an cn ap cp an' cn' ap' cp' := by
  have c : ∀ k o, k < n → W'.cell? ⟨k, o, none⟩ = W.cell? ⟨k, o, none⟩ := fun k o hk => hb.cell (p := ⟨k, o, none⟩) hk
  exact ⟨(c _ _ (by omega)).trans h.a0, (c _ _ (by omega)).trans h.a1, (c _ _ (by omega)).trans h.a2, (c _ _ (by omega)).trans h.a3, (c _ _ (by omega)).trans h.b0, (c _ _ (by omega)).trans h.b1, (c _ _ (by omega)).trans h.b2, (c _ _ (by omega)).trans h.b3⟩

set_option maxHeartbeats 8000000 in
set_option maxRecDepth 100000 in
theorem refsame_step (n B : Nat) (x y : JV) (va vb : Value) (m : Nat) (w : World) (hB : B ≤ w.heap.size) (hx : Rd w B (n + 1) x va) (hy : Rd w B (m + 1) y vb)
    (ih : ∀ (x y : JV) (va vb : Value) (W : World), B ≤ W.heap.size → Rd W B n x va → Rd W B m y vb → Calls Tryz.prog 11 #[va, vb] W (SameIs x y W)) :
    Calls Tryz.prog 11 #[va, vb] w (SameIs x y w) := by
  obtain ⟨an, cn, ap, cp, rfl, ⟨z1, z2, z3, z4, z5⟩, hs, hr⟩ := hx
  obtain ⟨an', cn', ap', cp', rfl, ⟨z1', z2', z3', z4', z5'⟩, hs', hr'⟩ := hy
  have HI := Lib.hid ih
  obtain ⟨W, hW⟩ : ∃ W, W = ((w.alloc (.cells #[.int .i64 x.k, .string x.s, .slice an x.ns.length cn, .slice ap x.ps.length cp] 25)).alloc (.cells #[.int .i64 y.k, .string y.s, .slice an' y.ns.length cn', .slice ap' y.ps.length cp'] 25)) := ⟨_, rfl⟩
  have hWz : W.heap.size = w.heap.size + 2 := by rw [hW]; simp
  have hbW : Below w.heap.size w W := by rw [hW]; exact ((Below.refl _ w).alloc (Nat.le_refl _) _).alloc (by simp) _
  have hT : Two W w.heap.size x y an cn ap cp an' cn' ap' cp' := by
    rw [hW]
    refine ⟨?_, ?_, ?_, ?_, ?_, ?_, ?_, ?_⟩ <;> go_simp
  have hsW := hs.below (hbW.mono hB)
  have hsW' := hs'.below (hbW.mono hB)
  have hrW := hr.below (hbW.mono hB)
  have hrW' := hr'.below (hbW.mono hB)
  have HW := Lib.hid hW
  have HT := Lib.hid hT
  have HS := Lib.hid hsW
  have HS' := Lib.hid hsW'
  have HRr := Lib.hid hrW
  have HRr' := Lib.hid hrW'
  clear hs hs' hr hr' hsW hsW' hrW hrW' ih hW hT
  obtain ⟨a0, a1, a2, a3, b0, b1, b2, b3⟩ := HT.out
  by_cases e1 : x.k = y.k
  · by_cases e2 : x.s.toList = y.s.toList
    · by_cases e3 : x.ns.length = y.ns.length
      · by_cases e4 : x.ps.length = y.ps.length
        · have d1 : (x.k != y.k) = false := by simpa using e1
          have d2 : (x.s.toList == y.s.toList) = true := by simpa using e2
          have d3 : ((x.ns.length : Int) != (y.ns.length : Int)) = false := by simp; omega
          have d4 : ((x.ps.length : Int) != (y.ps.length : Int)) = false := by simp; omega
          have E1 := Lib.hid e1
          have E2 := Lib.hid (bytes_ext e2)
          have E3 := Lib.hid e3
          have E4 := Lib.hid e4
          clear e1 e2 e3 e4
          go_enter Tryz.func11, Tryz.ntmps11
          go_wp2_with fail
          rw [← HW.out]
          clear d1 d2 d3 d4
          go_loopg [5] x.ns.length (fun k v wr => SNames W x y k v wr)
          case atStart => exact ⟨0, 0, rfl, Nat.zero_le _, rfl, rfl, fun t h => absurd h (by omega)⟩
          case round =>
            obtain ⟨i, q, rfl, hi, rfl, rfl, heq⟩ := hrel
            have HQ := Lib.hid heq
            clear heq
            by_cases hlt : i < x.ns.length
            · have hlt' : i < y.ns.length := by have := E3.out; omega
              obtain ⟨b, off, rfl, hb, _, hc⟩ := HS.out.at_ hlt
              obtain ⟨b', off', rfl, hb', _, hc'⟩ := HS'.out.at_ hlt'
              have G1 := Lib.hid (List.getElem?_eq_getElem hlt)
              have G2 := Lib.hid (List.getElem?_eq_getElem hlt')
              have hd : decide ((i : Int) < (x.ns.length : Int)) = true := decide_eq_true (by omega)
              generalize x.ns[i] = u at *
              generalize y.ns[i] = v at *
              by_cases he : u.toList = v.toList
              · have d5 : (u.toList == v.toList) = true := by simpa using he
                have HE := Lib.hid (bytes_ext he)
                clear he
                go_upto_region 6 with fail
                go_quiet (fail)
                go_wp2_with fail
                go_roundg (x.ns.length - (i + 1))
                case measure => omega
                case rel => exact ⟨i + 1, _, rfl, by omega, by go_num, rfl, fun t ht => by
                  by_cases h : t < i
                  · exact HQ.out t h
                  · obtain rfl : t = i := by omega
                    rw [G1.out, G2.out, HE.out]⟩
              · have d5 : (u.toList == v.toList) = false := by simpa using he
                have HF : Hid (eqB x y = false) := Lib.hid (eqB_false fun h => he (by
                  have h1 := G1.out
                  have h2 := G2.out
                  rw [h] at h1
                  rw [h1] at h2
                  rw [Option.some.inj h2]))
                clear he
                go_upto_region 6 with fail
                go_quiet (fail)
                go_wp2_with fail
                go_ret
                exact ⟨by rw [HF.out]; rfl, hbW.trans (((drewN_below W _).mono (by omega)).trans ((drewN_below _ _).mono (by show w.heap.size ≤ W.heap.size; omega)))⟩
            · have HNS := Lib.hid (lists_ext E3.out (fun t ht => HQ.out t (by omega)))
              have hd : decide ((i : Int) < (x.ns.length : Int)) = false := decide_eq_false (by omega)
              go_wp2_with fail
              go_loopg [6] x.ps.length (fun k v wr => SParts W x y k v wr)
              case atStart => exact ⟨0, rfl, Nat.zero_le _, rfl, drewN_below W _, fun t h => absurd h (by omega)⟩
              case round =>
                obtain ⟨j, rfl, hj, rfl, hbr, heq⟩ := hrel
                have HQ2 := Lib.hid heq
                clear heq
                have hT2 := HT.out.below hbr (by omega)
                obtain ⟨g0, g1, g2, g3, k0, k1, k2, k3⟩ := hT2
                have hzr := hbr.size
                clear a0 a1 a2 a3 b0 b1 b2 b3
                by_cases hlt2 : j < x.ps.length
                · have hlt2' : j < y.ps.length := by have := E4.out; omega
                  have hd2 : decide ((j : Int) < (x.ps.length : Int)) = true := decide_eq_true (by omega)
                  obtain ⟨b, off, u, pan, pcn, pap, pcp, G1, rfl, hb, hRu, f0, f1, f2, f3⟩ := HRr.out.elem hlt2 (hbr.mono (by omega))
                  obtain ⟨b', off', v, pan', pcn', pap', pcp', G2, rfl, hb', hRv, f0', f1', f2', f3'⟩ := HRr'.out.elem hlt2' (hbr.mono (by omega))
                  have hC := HI.out u v _ _ wr.drew (by show B ≤ wr.heap.size; omega) (Rd.keep (w := wr) (w' := wr.drew) (fun _ _ _ => rfl) hRu) (Rd.keep (w := wr) (w' := wr.drew) (fun _ _ _ => rfl) hRv)
                  unfold SameIs at hC
                  clear hRu hRv
                  cases hE : eqB u v with
                  | true =>
                    rw [hE] at hC
                    have HC := Lib.hid hC
                    have HUV := Lib.hid (eqB_eq hE)
                    clear hC hE
                    go_upto_region 11 with fail
                    go_region_with ((go_at_call 11); (with_reducible refine HC.out.mono ?_); rintro e w5 ⟨rfl, b5⟩)
                    all_goals
                      go_wp2_with fail
                      go_roundg (x.ps.length - (j + 1))
                      case measure => omega
                      case rel => exact ⟨j + 1, rfl, by omega, by go_num, hbr.trans ⟨b5.os, b5.tape, b5.output, b5.size, fun k hk => b5.block k (Nat.lt_of_lt_of_le hk hzr)⟩, fun t ht => by
                        by_cases h : t < j
                        · exact HQ2.out t h
                        · obtain rfl : t = j := by omega
                          rw [List.getElem?_eq_getElem hlt2, List.getElem?_eq_getElem hlt2', G1.out, G2.out, HUV.out]⟩
                  | false =>
                    rw [hE] at hC
                    have HC := Lib.hid hC
                    have HF : Hid (eqB x y = false) := Lib.hid (eqB_false fun h => by
                      have h1 := G1.out
                      have h2 := G2.out
                      subst h
                      rw [← h1, ← h2, eqB_true rfl] at hE
                      cases hE)
                    clear hC hE
                    go_upto_region 11 with fail
                    go_region_with ((go_at_call 11); (with_reducible refine HC.out.mono ?_); rintro e w5 ⟨rfl, b5⟩)
                    all_goals
                      go_wp2_with fail
                      go_ret
                      exact ⟨by rw [HF.out]; rfl, hbW.trans ((hbr.mono (by omega)).trans ⟨b5.os, b5.tape, b5.output, b5.size, fun k hk => b5.block k (by show k < wr.heap.size; omega)⟩)⟩
                · have hd2 : decide ((j : Int) < (x.ps.length : Int)) = false := decide_eq_false (by omega)
                  have HX := Lib.hid (JV.ext' E1.out E2.out HNS.out (lists_ext E4.out (fun t ht => HQ2.out t (by omega))))
                  go_wp2_with fail
                  go_ret
                  exact ⟨by rw [eqB_true HX.out]; rfl, hbW.trans (hbr.mono (by omega))⟩
        · have HF : Hid (eqB x y = false) := Lib.hid (eqB_false fun h => e4 (by rw [h]))
          have d1 : (x.k != y.k) = false := by simpa using e1
          have d2 : (x.s.toList == y.s.toList) = true := by simpa using e2
          have d3 : ((x.ns.length : Int) != (y.ns.length : Int)) = false := by simp; omega
          have d4 : ((x.ps.length : Int) != (y.ps.length : Int)) = true := by simp; omega
          clear e1 e2 e3 e4
          go_enter Tryz.func11, Tryz.ntmps11
          go_wp2_with fail
          go_ret
          rw [← HW.out]
          exact ⟨by rw [HF.out]; rfl, hbW⟩
      · have HF : Hid (eqB x y = false) := Lib.hid (eqB_false fun h => e3 (by rw [h]))
        have d1 : (x.k != y.k) = false := by simpa using e1
        have d2 : (x.s.toList == y.s.toList) = true := by simpa using e2
        have d3 : ((x.ns.length : Int) != (y.ns.length : Int)) = true := by simp; omega
        clear e1 e2 e3
        go_enter Tryz.func11, Tryz.ntmps11
        go_wp2_with fail
        go_ret
        rw [← HW.out]
        exact ⟨by rw [HF.out]; rfl, hbW⟩
    · have HF : Hid (eqB x y = false) := Lib.hid (eqB_false fun h => e2 (by rw [h]))
      have d1 : (x.k != y.k) = false := by simpa using e1
      have d2 : (x.s.toList == y.s.toList) = false := by simpa using e2
      clear e1 e2
      go_enter Tryz.func11, Tryz.ntmps11
      go_wp2_with fail
      go_ret
      rw [← HW.out]
      exact ⟨by rw [HF.out]; rfl, hbW⟩
  · have HF : Hid (eqB x y = false) := Lib.hid (eqB_false fun h => e1 (by rw [h]))
    have d1 : (x.k != y.k) = true := by simpa using e1
    clear e1
    go_enter Tryz.func11, Tryz.ntmps11
    go_wp2_with fail
    go_ret
    rw [← HW.out]
    exact ⟨by rw [HF.out]; rfl, hbW⟩

theorem refsame_any (B : Nat) : ∀ (n m : Nat) (x y : JV) (va vb : Value) (w : World), B ≤ w.heap.size → Rd w B n x va → Rd w B m y vb → Calls Tryz.prog 11 #[va, vb] w (SameIs x y w)
  | 0, _, _, _, _, _, _, _, h, _ => h.elim
  | _ + 1, 0, _, _, _, _, _, _, _, h => h.elim
  | n + 1, m + 1, x, y, va, vb, w, hB, hx, hy => refsame_step n B x y va vb m w hB hx hy fun x y va vb W hB hx hy => refsame_any B n m x y va vb W hB hx hy

end Go.Proofs.YtiblffipfldgjaaGreatDoor

/-
  ValueBack, bounded: its walk.
-/
namespace Go.Proofs.YtiblffipfldgjaaGreatDoor
open Go.RowKit
set_option linter.unusedSimpArgs false

theorem quoteIn_ge : ∀ l : List UInt8, l.length ≤ (quoteIn l).length
  | [] => Nat.le_refl _
  | b :: l => by
    obtain ⟨c, t, hc, _⟩ := esc_head b
    have e : quoteIn (b :: l) = escB b ++ quoteIn l := rfl
    have := quoteIn_ge l
    rw [e, hc, List.length_append, List.length_cons, List.length_cons]; omega
theorem leafK_small (x : JV) (h : leafOk x = true) : ∀ t ∈ leafK x, t.2.length ≤ (leafT x).length := by
  intro t ht
  unfold leafK at ht
  unfold leafT
  by_cases h1 : x.k = 1
  · rw [if_pos h1] at ht ⊢
    rw [List.mem_singleton.1 ht]; exact Nat.le_refl _
  rw [if_neg h1] at ht ⊢
  by_cases h3 : x.k = 3
  · rw [if_pos h3] at ht
    rw [if_neg (by omega), if_neg (by omega), List.mem_singleton.1 ht]; exact Nat.le_refl _
  rw [if_neg h3] at ht
  by_cases h4 : x.k = 4
  · rw [if_pos h4] at ht
    rw [if_neg (by omega), if_neg (by omega), List.mem_singleton.1 ht]; exact Nat.le_refl _
  rw [if_neg h4] at ht
  by_cases h5 : x.k = 5
  · rw [if_pos h5] at ht ⊢
    rw [List.mem_singleton.1 ht]
    have hv : Lib.validD (vbl x.s) = true := by
      unfold leafOk at h
      rwa [if_neg h1, if_neg h3, if_neg h4, if_pos h5] at h
    have := quoteIn_ge (vbl x.s)
    unfold quoteB
    rw [if_pos hv]
    show (vbl x.s).length ≤ (34 :: (quoteIn (vbl x.s) ++ [34])).length
    rw [List.length_cons, List.length_append]; omega
  rw [if_neg h5] at ht ⊢
  by_cases h9 : x.k = 9
  · rw [if_pos h9] at ht ⊢
    rcases List.mem_cons.1 ht with rfl | ht
    · show 1 ≤ _; rw [List.length_cons]; omega
    · rw [List.mem_singleton.1 ht, List.length_cons]
      show (vbl x.s).length ≤ _
      omega
  rw [if_neg h9] at ht ⊢
  rw [List.mem_singleton.1 ht]; exact Nat.le_refl _
theorem ptk_small (f : JV → List Sk) (g : JV → List UInt8) (ob : Bool) : ∀ (ps : List JV) (ns : List ByteArray) (fst : Bool), (∀ p ∈ ps, ∀ t ∈ f p, t.2.length ≤ (g p).length) → ∀ t ∈ ptk f ob ns ps, t.2.length ≤ (vpts g ob fst ns ps).length
  | [], _, _, _, t, ht => by cases ht
  | p :: ps, ns, fst, hp, t, ht => by
    have hlen : (vpts g ob fst ns (p :: ps)).length = (if fst then ([] : List UInt8) else [32]).length + ((if ob then vbl (ns.headD ⟨#[]⟩) ++ [58] else []).length + ((g p).length + (vpts g ob false ns.tail ps).length)) := by
      show ((if fst then ([] : List UInt8) else [32]) ++ ((if ob then vbl (ns.headD ⟨#[]⟩) ++ [58] else []) ++ (g p ++ vpts g ob false ns.tail ps))).length = _
      rw [List.length_append, List.length_append, List.length_append]
    have ht' : t ∈ (if ob then [((1 : Nat), vbl (ns.headD ⟨#[]⟩)), (5, [58])] else []) ++ (f p ++ ptk f ob ns.tail ps) := ht
    rcases List.mem_append.1 ht' with h | h
    · cases ob with
      | false => cases h
      | true =>
        have e2 : (if true = true then vbl (ns.headD ⟨#[]⟩) ++ [58] else []).length = (vbl (ns.headD ⟨#[]⟩)).length + 1 := by rw [if_pos rfl, List.length_append]; rfl
        rcases List.mem_cons.1 h with rfl | h
        · show (vbl (ns.headD ⟨#[]⟩)).length ≤ _; omega
        · rw [List.mem_singleton.1 h]; show 1 ≤ _; omega
    · rcases List.mem_append.1 h with h | h
      · have := hp p (by simp) t h; omega
      · have := ptk_small f g ob ps ns.tail false (fun q hq => hp q (by simp [hq])) t h; omega
theorem vtk_small : ∀ (m : Nat) (x : JV), rdOk m x = true → ∀ t ∈ vtk m x, t.2.length ≤ (vtxt m x).length := by
  intro m
  induction m with
  | zero =>
    intro x h t ht
    have h7 : x.k ≠ 7 := fun e => by obtain ⟨m', e', _⟩ := rdOk_parts h (.inl e); omega
    have h8 : x.k ≠ 8 := fun e => by obtain ⟨m', e', _⟩ := rdOk_parts h (.inr e); omega
    rw [vtk_leaf h7 h8] at ht
    rw [vtxt_leaf h7 h8]
    exact leafK_small x (vs_leaf h7 h8 (rdOk_self h)).2.2 t ht
  | succ m ih =>
    intro x h t ht
    by_cases h7 : x.k = 7
    · obtain ⟨m', e', hp⟩ := rdOk_parts h (.inl h7)
      obtain rfl : m = m' := by omega
      have eT : vtxt (m + 1) x = [91] ++ (vpts (vtxt m) false true x.ns x.ps ++ [93]) := by unfold vtxt; rw [if_pos h7]
      have eK : vtk (m + 1) x = (5, [91]) :: (ptk (vtk m) false x.ns x.ps ++ [(5, [93])]) := by unfold vtk; rw [if_pos h7]
      rw [eK] at ht
      rw [eT, List.length_append, List.length_append]
      rcases List.mem_cons.1 ht with rfl | ht
      · show 1 ≤ 1 + _; omega
      · rcases List.mem_append.1 ht with ht | ht
        · have := ptk_small (vtk m) (vtxt m) false x.ps x.ns true (fun p hm => ih p (hp p hm)) t ht; omega
        · rw [List.mem_singleton.1 ht]; show 1 ≤ 1 + _; omega
    by_cases h8 : x.k = 8
    · obtain ⟨m', e', hp⟩ := rdOk_parts h (.inr h8)
      obtain rfl : m = m' := by omega
      have eT : vtxt (m + 1) x = [123] ++ (vpts (vtxt m) true true x.ns x.ps ++ [125]) := by unfold vtxt; rw [if_neg h7, if_pos h8]
      have eK : vtk (m + 1) x = (5, [123]) :: (ptk (vtk m) true x.ns x.ps ++ [(5, [125])]) := by unfold vtk; rw [if_neg h7, if_pos h8]
      rw [eK] at ht
      rw [eT, List.length_append, List.length_append]
      rcases List.mem_cons.1 ht with rfl | ht
      · show 1 ≤ 1 + _; omega
      · rcases List.mem_append.1 ht with ht | ht
        · have := ptk_small (vtk m) (vtxt m) true x.ps x.ns true (fun p hm => ih p (hp p hm)) t ht; omega
        · rw [List.mem_singleton.1 ht]; show 1 ≤ 1 + _; omega
    rw [vtk_leaf h7 h8] at ht
    rw [vtxt_leaf h7 h8]
    exact leafK_small x (vs_leaf h7 h8 (rdOk_self h)).2.2 t ht

theorem value_back {a : Option Addr} {cap : Nat} {ts : List Tk} {x : JV} (w : World) (ht : TkAt w a ts) (hc : ts.length ≤ cap) (hs : ts.length ≤ 9000) (hz : ∀ t ∈ ts, t.s.length ≤ 1000000) (hst : ts.map strip = vtk 12 x) (hok : rdOk 12 x = true) :
    Calls Tryz.prog 10 #[.slice a ts.length cap, .int .i64 0] w fun e w' => Below w.heap.size w w' ∧ ∃ v, e = .returned (.tuple #[v, .int .i64 ts.length, .int .i64 0]) ∧ RdD w' (fun b => w.heap.size ≤ b ∧ b < w'.heap.size) 13 x v := by
  have hp : pvT 12 (ts.map strip) = (x, [], 0) := by
    rw [hst]
    have := txt_reads 12 x hok 12 (Nat.le_refl _) []
    rwa [List.append_nil] at this
  refine (valValue_any w ht hc hs hz).mono fun e w' h => ?_
  rw [hp] at h
  obtain ⟨hb, v, he, _, hR⟩ := h
  rw [if_pos (show ((x, ([] : List Sk), 0) : VR).2.2 = 0 from rfl)] at hR
  exact ⟨hb, v, he, hR⟩

theorem cnt_len : ∀ l : List UInt8, cnt93 l ≤ l.length
  | [] => Nat.le_refl _
  | b :: r => by have := cnt_len r; show (if b == 93 then 1 else 0) + cnt93 r ≤ _; rw [List.length_cons]; split <;> omega
theorem tyText_size (n s : ByteArray) (hn : n.size ≤ 100) (hs : s.size ≤ 60) : (⟨(tyTextB (vbl n) (vbl s)).toArray⟩ : ByteArray).size ≤ 300 := by
  show (tyTextB (vbl n) (vbl s)).length ≤ 300
  have h1 : (vbl n).length = n.size := rfl
  have h2 : (vbl s).length = s.size := rfl
  have h3 := cnt_len (vbl s)
  unfold tyTextB tyText
  split
  · rw [List.length_append, List.length_replicate, List.length_append]; omega
  · exact Nat.zero_le _

set_option maxHeartbeats 20000000 in
set_option maxRecDepth 100000 in
theorem valueBack_walk (N : Nat) (x : JV) (v : Value) (n s : ByteArray) (w : World) (hx : Rd w w.heap.size (N + 1) x v) (htx : (vtxt 12 x).length ≤ 100000000000) (hm : ∃ m, w.cell? ⟨0, 0, none⟩ = some (.int .i64 m)) :
    Calls Tryz.prog 3 #[v, .agg #[.string n, .string s]] w (TrueBelow w) := by
  obtain ⟨an, cn, ap, cp, rfl⟩ := hx.shape
  obtain ⟨V, hV⟩ : ∃ V, V = (w.alloc (.cells #[.int .i64 x.k, .string x.s, .slice an x.ns.length cn, .slice ap x.ps.length cp] 25)).alloc (.cells #[.string n, .string s] 27) := ⟨_, rfl⟩
  have hVs : V.heap.size = w.heap.size + 2 := by rw [hV]; simp
  have BV : Below w.heap.size w V := by rw [hV]; exact ((Below.refl _ w).alloc (Nat.le_refl _) _).alloc (by simp) _
  have F : ∀ W, Below V.heap.size V W → W.cell? ⟨w.heap.size, 0, none⟩ = some (.int .i64 x.k) ∧ W.cell? ⟨w.heap.size, 1, none⟩ = some (.string x.s) ∧ W.cell? ⟨w.heap.size, 2, none⟩ = some (.slice an x.ns.length cn) ∧ W.cell? ⟨w.heap.size, 3, none⟩ = some (.slice ap x.ps.length cp) ∧ W.cell? ⟨w.heap.size + 1, 0, none⟩ = some (.string n) ∧ W.cell? ⟨w.heap.size + 1, 1, none⟩ = some (.string s) := fun W hb => by
    have c1 : ∀ j, W.cell? ⟨w.heap.size, j, none⟩ = V.cell? ⟨w.heap.size, j, none⟩ := fun j => hb.cell (p := ⟨w.heap.size, j, none⟩) (by show w.heap.size < _; omega)
    have c2 : ∀ j, W.cell? ⟨w.heap.size + 1, j, none⟩ = V.cell? ⟨w.heap.size + 1, j, none⟩ := fun j => hb.cell (p := ⟨w.heap.size + 1, j, none⟩) (by show w.heap.size + 1 < _; omega)
    refine ⟨(c1 0).trans ?_, (c1 1).trans ?_, (c1 2).trans ?_, (c1 3).trans ?_, (c2 0).trans ?_, (c2 1).trans ?_⟩ <;> (rw [hV]; go_simp)
  have RX : Rd V V.heap.size (N + 1) x (.agg #[.int .i64 x.k, .string x.s, .slice an x.ns.length cn, .slice ap x.ps.length cp]) := (hx.below BV).more BV.size
  have FX := fun W (hb : Below V.heap.size V W) => few_any 14 (by omega) 14 rfl V.heap.size (N + 1) x _ W hb.size (RX.below hb)
  have MV := at_maxlen hm BV
  have bc : Below V.heap.size V V := Below.refl _ _
  obtain ⟨g0, g1, g2, g3, t0, t1⟩ := F _ bc
  have HX := Lib.hid RX
  have HV0 := Lib.hid hV
  have HMV := Lib.hid MV
  clear RX hx hV MV hm
  cases hfx : fewB 14 x with
  | false =>
    rw [hfx] at FX
    clear hfx
    go_enter Tryz.func3, Tryz.ntmps3
    go_upto_region 1 with fail
    rw [← HV0.out]
    go_wp2_with fail
    refine (FX _ bc).mono ?_
    rintro e w1 ⟨rfl, b1⟩
    have bc := bc.trans (b1.mono bc.size)
    go_wp2_with fail
    refine (vAwake _).mono ?_
    rintro e w9 ⟨rfl, b9⟩
    go_wp2_with fail
    go_ret
    exact ⟨rfl, (BV.trans (bc.mono BV.size)).trans (b9.mono (BV.trans (bc.mono BV.size)).size)⟩
  | true =>
    rw [hfx] at FX
    clear hfx
    by_cases h100 : 100 < n.size
    · have d1 : decide ((100 : Int) < (n.size : Int)) = true := decide_eq_true (by omega)
      clear h100
      go_enter Tryz.func3, Tryz.ntmps3
      go_upto_region 1 with fail
      rw [← HV0.out]
      go_wp2_with fail
      refine (FX _ bc).mono ?_
      rintro e w1 ⟨rfl, b1⟩
      have bc := bc.trans (b1.mono bc.size)
      obtain ⟨g0, g1, g2, g3, t0, t1⟩ := F _ bc
      go_wp2_with fail
      refine (vAwake _).mono ?_
      rintro e w9 ⟨rfl, b9⟩
      go_wp2_with fail
      go_ret
      exact ⟨rfl, (BV.trans (bc.mono BV.size)).trans (b9.mono (BV.trans (bc.mono BV.size)).size)⟩
    · have d1 : decide ((100 : Int) < (n.size : Int)) = false := decide_eq_false (by omega)
      have h100 : n.size ≤ 100 := by omega
      by_cases h60 : 60 < s.size
      · have d2 : decide ((60 : Int) < (s.size : Int)) = true := decide_eq_true (by omega)
        clear h60 h100
        go_enter Tryz.func3, Tryz.ntmps3
        go_upto_region 1 with fail
        rw [← HV0.out]
        go_wp2_with fail
        refine (FX _ bc).mono ?_
        rintro e w1 ⟨rfl, b1⟩
        have bc := bc.trans (b1.mono bc.size)
        obtain ⟨g0, g1, g2, g3, t0, t1⟩ := F _ bc
        go_wp2_with fail
        refine (vAwake _).mono ?_
        rintro e w9 ⟨rfl, b9⟩
        go_wp2_with fail
        go_ret
        exact ⟨rfl, (BV.trans (bc.mono BV.size)).trans (b9.mono (BV.trans (bc.mono BV.size)).size)⟩
      · have d2 : decide ((60 : Int) < (s.size : Int)) = false := decide_eq_false (by omega)
        have h60 : s.size ≤ 60 := by omega
        have HTV := fun W (hb : Below V.heap.size V W) => vtext_any V.heap.size (N + 1) x _ W hb.size (HX.out.below hb) (by omega)
        have HTX := fun W (hb : Below V.heap.size V W) => typeText_any n s W (by omega) (by omega) (at_maxlen HMV.out hb)
        have HCK := fun W (hb : Below V.heap.size V W) => checkType_any n s W (by omega) (by omega) (at_maxlen HMV.out hb)
        have HXS := Lib.hid (show vbl (⟨(vtextB x).toArray⟩ : ByteArray) = vtextB x from rfl)
        unfold StrBelow at HTV
        generalize (⟨(vtextB x).toArray⟩ : ByteArray) = X at *
        go_enter Tryz.func3, Tryz.ntmps3
        go_upto_region 1 with fail
        rw [← HV0.out]
        go_wp2_with fail
        refine (FX _ bc).mono ?_
        rintro e w1 ⟨rfl, b1⟩
        have bc := bc.trans (b1.mono bc.size)
        obtain ⟨g0, g1, g2, g3, t0, t1⟩ := F _ bc
        clear b1 FX
        go_wp2_with fail
        refine (HTV _ bc).mono ?_
        rintro e w2 ⟨rfl, b2⟩
        have bc := bc.trans (b2.mono bc.size)
        obtain ⟨g0, g1, g2, g3, t0, t1⟩ := F _ bc
        clear b2 HTV
        by_cases hgo : vbl X ≠ [] ∧ X.size < 7000
        · have e1 := toList_no hgo.1
          have e2 : decide ((X.size : Int) < 7000) = true := decide_eq_true (by omega)
          have hok : rdOk 12 x = true := by
            cases hr : rdOk 12 x with
            | true => rfl
            | false => exact absurd (by rw [HXS.out]; unfold vtextB; rw [hr]; rfl) hgo.1
          have hXt : vbl X = vtxt 12 x := by rw [HXS.out]; unfold vtextB; rw [hok]; rfl
          have hXl : (vtxt 12 x).length < 7000 := by rw [← hXt]; exact hgo.2
          obtain ⟨ts, hst, hlx⟩ := lex_txt hok (by omega)
          have htz : ∀ t ∈ ts, t.s.length ≤ 1000000 := fun t ht => by
            have : strip t ∈ vtk 12 x := by rw [← hst]; exact List.mem_map.2 ⟨t, ht, rfl⟩
            have := vtk_small 12 x hok _ this
            show (strip t).2.length ≤ _
            omega
          have hne : 0 < ts.length := by
            obtain ⟨t, r, hr, _⟩ := vtk_head 12 x
            rw [← List.length_map (f := strip), hst, hr, List.length_cons]; omega
          have hts : ts.length ≤ 8000 := by
            have := lexP_len (vtxt 12 x)
            rwa [hlx] at this
          have HA := fun W => lex_toks (s := X) (by show lexP (vbl X) = _; rw [hXt]; exact hlx) hne W (by omega)
          have HST := Lib.hid hst
          have HTZ := Lib.hid htz
          have HOK := Lib.hid hok
          clear hgo hok hXt hXl hst hlx htz HXS
          go_wp2_with fail
          refine (HA _).mono ?_
          rintro e w3 ⟨b3, g, cp1, rfl, hcap, hg1, hg2, hcc⟩
          have bc := bc.trans (b3.mono bc.size)
          have HVL := value_back (a := some ⟨g, 0, none⟩) w3 (fun _ => ⟨g, rfl, hcc⟩) hcap (by omega) HTZ.out HST.out HOK.out
          clear HA b3 hcc
          go_wp2_with fail
          refine HVL.mono ?_
          rintro e w4 ⟨b4, v4, rfl, hR4⟩
          have bc4 := bc.trans (b4.mono bc.size)
          obtain ⟨an4, cn4, ap4, cp4, rfl⟩ := hR4.shape
          have hb5 : Below w4.heap.size w4 (w4.alloc (.cells #[.int .i64 x.k, .string x.s, .slice an4 x.ns.length cn4, .slice ap4 x.ps.length cp4] 25)) := (Below.refl _ _).alloc (Nat.le_refl _) _
          have bc5 := bc4.trans (hb5.mono bc4.size)
          have hz45 : V.heap.size ≤ w4.heap.size := bc4.size
          have HSM := refsame_any w4.heap.size (N + 1) 13 x x _ _ (w4.alloc (.cells #[.int .i64 x.k, .string x.s, .slice an4 x.ns.length cn4, .slice ap4 x.ps.length cp4] 25)) hb5.size (((HX.out.below bc4).more hz45).below hb5) (rdD_rd (fun b hd => hd.2) hR4 _ hb5)
          unfold SameIs at HSM
          rw [eqB_true rfl] at HSM
          obtain ⟨g0, g1, g2, g3, t0, t1⟩ := F _ bc4
          have hl4 : w.heap.size + 1 < w4.heap.size := by omega
          have hl40 : w.heap.size < w4.heap.size := by omega
          have BC5 := Lib.hid bc5
          clear HVL b4 hR4 hb5 bc4 bc5 bc
          go_wp2_with fail
          refine HSM.mono ?_
          rintro e w6 ⟨rfl, b6⟩
          have bc := BC5.out.trans (b6.mono BC5.out.size)
          obtain ⟨g0, g1, g2, g3, t0, t1⟩ := F _ bc
          clear HSM b6 HST HTZ HOK
          go_upto_region 9 with fail
          have hz1 : (⟨(tyTextB (vbl n) (vbl s)).toArray⟩ : ByteArray).size ≤ 300 := tyText_size n s h100 h60
          have HYS := Lib.hid (show vbl (⟨(tyTextB (vbl n) (vbl s)).toArray⟩ : ByteArray) = tyTextB (vbl n) (vbl s) from rfl)
          have HT1 := HTX w6 bc
          unfold StrBelow at HT1
          generalize (⟨(tyTextB (vbl n) (vbl s)).toArray⟩ : ByteArray) = Y at *
          go_wp2_with fail
          refine HT1.mono ?_
          rintro e w21 ⟨rfl, b21⟩
          have bc := bc.trans (b21.mono bc.size)
          obtain ⟨g0, g1, g2, g3, t0, t1⟩ := F _ bc
          have HT2 := HCK w21 bc
          clear HT1 b21
          cases hok : tyOk (vbl n) (vbl s) with
          | false =>
            rw [hok] at HT2
            have hY : Y = ⟨#[]⟩ := vbl_inj (by rw [HYS.out]; unfold tyTextB; rw [hok]; rfl)
            subst hY
            clear hok HYS
            go_wp2_with fail
            refine HT2.mono ?_
            rintro e w22 ⟨rfl, b22⟩
            have bc := bc.trans (b22.mono bc.size)
            clear HT2 b22
            go_wp2_with fail
            refine (vAwake _).mono ?_
            rintro e w23 ⟨rfl, b23⟩
            go_wp2_with fail
            go_ret
            exact ⟨rfl, (BV.trans (bc.mono BV.size)).trans (b23.mono (BV.trans (bc.mono BV.size)).size)⟩
          | true =>
            rw [hok] at HT2
            obtain ⟨hn1, hw1, hc1⟩ : nameB (vbl n) = true ∧ wrOk (vbl s) = true ∧ cnt93 (vbl s) ≤ 12 := by
              unfold tyOk at hok
              rw [Bool.and_eq_true, Bool.and_eq_true, decide_eq_true_eq] at hok
              exact hok
            have hY : vbl Y = tyText (vbl n) (vbl s) := by rw [HYS.out]; unfold tyTextB; rw [hok]; rfl
            have hYs : (Y ++ ⟨#[58]⟩).size ≤ 400 := by rw [ByteArray.size_append]; show _ + 1 ≤ _; omega
            obtain ⟨ts, hst, hlx⟩ := ty_lex (X := Y ++ ⟨#[58]⟩) (n := vbl n) (ws := vbl s) (tl := [58]) (tk := [(5, [58])]) hn1 hw1 (by rw [vbl_append, hY]; rfl) (by rw [← hY]; show (vbl Y ++ [58]).length ≤ 8000; rw [List.length_append]; show Y.size + 1 ≤ _; omega) (sep_of _ (by decide) (by decide)) (fun a acc => ⟨[⟨5, [58], a⟩], rfl, by rw [sign_go (by decide), lxG_nil]⟩)
            have htl : ts.length = (cnt93 (vbl s) + 1 + (vbl s).length) + 1 := by rw [← List.length_map (f := strip), hst, List.length_append, tk_len]; rfl
            have hvl : (vbl s).length = s.size := rfl
            have htz : ∀ t ∈ ts, t.s.length ≤ 1000000 := fun t ht => by
              have : strip t ∈ ts.map strip := List.mem_map.2 ⟨t, ht, rfl⟩
              rw [hst] at this
              rcases List.mem_append.1 this with h | h
              · exact tk_small (n := vbl n) (ws := vbl s) (by show n.size ≤ _; omega) (strip t) h
              · have e : strip t = (5, [58]) := by simpa using h
                show (strip t).2.length ≤ _
                rw [e]; decide
            have HA := fun W => lex_toks hlx (by omega) W (by omega)
            have hq1 : IntKind.i64.wrap ((ts.length : Int) - 1) = (ts.length : Int) - 1 := IntWalk.i64_in _ (by omega)
            have HST := Lib.hid hst
            have HTZ := Lib.hid htz
            have htsb : ts.length ≤ 200 := by omega
            have HC12 := Lib.hid hc1
            have HWR := Lib.hid hw1
            have hpos : 0 < ts.length := by omega
            clear hok HYS hY hlx hst htz htl hn1 hw1 hc1
            go_wp2_with fail
            refine HT2.mono ?_
            rintro e w22 ⟨rfl, b22⟩
            have bc := bc.trans (b22.mono bc.size)
            clear HT2 b22
            go_wp2_with fail
            refine (HA _).mono ?_
            rintro e w23 ⟨b23, g, cp1, rfl, hcap, hg1, hg2, hcc⟩
            have bc := bc.trans (b23.mono bc.size)
            have HV := type_some (a := some ⟨g, 0, none⟩) (nm := n) (ws := s) (tl := [(5, [58])]) w23 (fun _ => ⟨g, rfl, hcc⟩) hcap (by omega) HTZ.out HST.out HWR.out HC12.out (by rfl)
            rw [show ((ts.length - ([(5, [58])] : List Sk).length : Nat) : Int) = (ts.length : Int) - 1 by show ((ts.length - 1 : Nat) : Int) = _; omega] at HV
            clear HA b23 hcc
            go_wp2_with fail
            refine HV.mono ?_
            rintro e w24 ⟨b24, rfl⟩
            have bc := bc.trans (b24.mono bc.size)
            have bc2 := bc.alloc bc.size (.cells #[.string n, .string s] 27)
            obtain ⟨g0, g1, g2, g3, t0, t1⟩ := F _ bc
            have hl24 : w.heap.size + 1 < w24.heap.size := by have := bc.size; omega
            clear HV b24
            go_wp2_with fail
            refine (vAwake _).mono ?_
            rintro e w25 ⟨rfl, b25⟩
            go_wp2_with fail
            go_ret
            exact ⟨rfl, (BV.trans (bc2.mono BV.size)).trans (b25.mono (BV.trans (bc2.mono BV.size)).size)⟩
        · have hno : vbl X = [] ∨ (vbl X ≠ [] ∧ 7000 ≤ X.size) := by
            by_cases h : vbl X = []
            · exact .inl h
            · exact .inr ⟨h, by have := not_and.1 hgo h; omega⟩
          rcases hno with he | ⟨he, hbig⟩
          · have e1 := toList_yes he
            clear hgo he HXS
            go_upto_region 9 with fail
            have hz1 : (⟨(tyTextB (vbl n) (vbl s)).toArray⟩ : ByteArray).size ≤ 300 := tyText_size n s h100 h60
            have HYS := Lib.hid (show vbl (⟨(tyTextB (vbl n) (vbl s)).toArray⟩ : ByteArray) = tyTextB (vbl n) (vbl s) from rfl)
            have HT1 := HTX w2 bc
            unfold StrBelow at HT1
            generalize (⟨(tyTextB (vbl n) (vbl s)).toArray⟩ : ByteArray) = Y at *
            go_wp2_with fail
            refine HT1.mono ?_
            rintro e w21 ⟨rfl, b21⟩
            have bc := bc.trans (b21.mono bc.size)
            obtain ⟨g0, g1, g2, g3, t0, t1⟩ := F _ bc
            have HT2 := HCK w21 bc
            clear HT1 b21
            cases hok : tyOk (vbl n) (vbl s) with
            | false =>
              rw [hok] at HT2
              have hY : Y = ⟨#[]⟩ := vbl_inj (by rw [HYS.out]; unfold tyTextB; rw [hok]; rfl)
              subst hY
              clear hok HYS
              go_wp2_with fail
              refine HT2.mono ?_
              rintro e w22 ⟨rfl, b22⟩
              have bc := bc.trans (b22.mono bc.size)
              clear HT2 b22
              go_wp2_with fail
              refine (vAwake _).mono ?_
              rintro e w23 ⟨rfl, b23⟩
              go_wp2_with fail
              go_ret
              exact ⟨rfl, (BV.trans (bc.mono BV.size)).trans (b23.mono (BV.trans (bc.mono BV.size)).size)⟩
            | true =>
              rw [hok] at HT2
              obtain ⟨hn1, hw1, hc1⟩ : nameB (vbl n) = true ∧ wrOk (vbl s) = true ∧ cnt93 (vbl s) ≤ 12 := by
                unfold tyOk at hok
                rw [Bool.and_eq_true, Bool.and_eq_true, decide_eq_true_eq] at hok
                exact hok
              have hY : vbl Y = tyText (vbl n) (vbl s) := by rw [HYS.out]; unfold tyTextB; rw [hok]; rfl
              have hYs : (Y ++ ⟨#[58]⟩).size ≤ 400 := by rw [ByteArray.size_append]; show _ + 1 ≤ _; omega
              obtain ⟨ts, hst, hlx⟩ := ty_lex (X := Y ++ ⟨#[58]⟩) (n := vbl n) (ws := vbl s) (tl := [58]) (tk := [(5, [58])]) hn1 hw1 (by rw [vbl_append, hY]; rfl) (by rw [← hY]; show (vbl Y ++ [58]).length ≤ 8000; rw [List.length_append]; show Y.size + 1 ≤ _; omega) (sep_of _ (by decide) (by decide)) (fun a acc => ⟨[⟨5, [58], a⟩], rfl, by rw [sign_go (by decide), lxG_nil]⟩)
              have htl : ts.length = (cnt93 (vbl s) + 1 + (vbl s).length) + 1 := by rw [← List.length_map (f := strip), hst, List.length_append, tk_len]; rfl
              have hvl : (vbl s).length = s.size := rfl
              have htz : ∀ t ∈ ts, t.s.length ≤ 1000000 := fun t ht => by
                have : strip t ∈ ts.map strip := List.mem_map.2 ⟨t, ht, rfl⟩
                rw [hst] at this
                rcases List.mem_append.1 this with h | h
                · exact tk_small (n := vbl n) (ws := vbl s) (by show n.size ≤ _; omega) (strip t) h
                · have e : strip t = (5, [58]) := by simpa using h
                  show (strip t).2.length ≤ _
                  rw [e]; decide
              have HA := fun W => lex_toks hlx (by omega) W (by omega)
              have hq1 : IntKind.i64.wrap ((ts.length : Int) - 1) = (ts.length : Int) - 1 := IntWalk.i64_in _ (by omega)
              have HST := Lib.hid hst
              have HTZ := Lib.hid htz
              have htsb : ts.length ≤ 200 := by omega
              have HC12 := Lib.hid hc1
              have HWR := Lib.hid hw1
              have hpos : 0 < ts.length := by omega
              clear hok HYS hY hlx hst htz htl hn1 hw1 hc1
              go_wp2_with fail
              refine HT2.mono ?_
              rintro e w22 ⟨rfl, b22⟩
              have bc := bc.trans (b22.mono bc.size)
              clear HT2 b22
              go_wp2_with fail
              refine (HA _).mono ?_
              rintro e w23 ⟨b23, g, cp1, rfl, hcap, hg1, hg2, hcc⟩
              have bc := bc.trans (b23.mono bc.size)
              have HV := type_some (a := some ⟨g, 0, none⟩) (nm := n) (ws := s) (tl := [(5, [58])]) w23 (fun _ => ⟨g, rfl, hcc⟩) hcap (by omega) HTZ.out HST.out HWR.out HC12.out (by rfl)
              rw [show ((ts.length - ([(5, [58])] : List Sk).length : Nat) : Int) = (ts.length : Int) - 1 by show ((ts.length - 1 : Nat) : Int) = _; omega] at HV
              clear HA b23 hcc
              go_wp2_with fail
              refine HV.mono ?_
              rintro e w24 ⟨b24, rfl⟩
              have bc := bc.trans (b24.mono bc.size)
              have bc2 := bc.alloc bc.size (.cells #[.string n, .string s] 27)
              obtain ⟨g0, g1, g2, g3, t0, t1⟩ := F _ bc
              have hl24 : w.heap.size + 1 < w24.heap.size := by have := bc.size; omega
              clear HV b24
              go_wp2_with fail
              refine (vAwake _).mono ?_
              rintro e w25 ⟨rfl, b25⟩
              go_wp2_with fail
              go_ret
              exact ⟨rfl, (BV.trans (bc2.mono BV.size)).trans (b25.mono (BV.trans (bc2.mono BV.size)).size)⟩
          · have e1 := toList_no he
            have e2 : decide ((X.size : Int) < 7000) = false := decide_eq_false (by omega)
            clear hgo he HXS hbig
            go_upto_region 9 with fail
            have hz1 : (⟨(tyTextB (vbl n) (vbl s)).toArray⟩ : ByteArray).size ≤ 300 := tyText_size n s h100 h60
            have HYS := Lib.hid (show vbl (⟨(tyTextB (vbl n) (vbl s)).toArray⟩ : ByteArray) = tyTextB (vbl n) (vbl s) from rfl)
            have HT1 := HTX w2 bc
            unfold StrBelow at HT1
            generalize (⟨(tyTextB (vbl n) (vbl s)).toArray⟩ : ByteArray) = Y at *
            go_wp2_with fail
            refine HT1.mono ?_
            rintro e w21 ⟨rfl, b21⟩
            have bc := bc.trans (b21.mono bc.size)
            obtain ⟨g0, g1, g2, g3, t0, t1⟩ := F _ bc
            have HT2 := HCK w21 bc
            clear HT1 b21
            cases hok : tyOk (vbl n) (vbl s) with
            | false =>
              rw [hok] at HT2
              have hY : Y = ⟨#[]⟩ := vbl_inj (by rw [HYS.out]; unfold tyTextB; rw [hok]; rfl)
              subst hY
              clear hok HYS
              go_wp2_with fail
              refine HT2.mono ?_
              rintro e w22 ⟨rfl, b22⟩
              have bc := bc.trans (b22.mono bc.size)
              clear HT2 b22
              go_wp2_with fail
              refine (vAwake _).mono ?_
              rintro e w23 ⟨rfl, b23⟩
              go_wp2_with fail
              go_ret
              exact ⟨rfl, (BV.trans (bc.mono BV.size)).trans (b23.mono (BV.trans (bc.mono BV.size)).size)⟩
            | true =>
              rw [hok] at HT2
              obtain ⟨hn1, hw1, hc1⟩ : nameB (vbl n) = true ∧ wrOk (vbl s) = true ∧ cnt93 (vbl s) ≤ 12 := by
                unfold tyOk at hok
                rw [Bool.and_eq_true, Bool.and_eq_true, decide_eq_true_eq] at hok
                exact hok
              have hY : vbl Y = tyText (vbl n) (vbl s) := by rw [HYS.out]; unfold tyTextB; rw [hok]; rfl
              have hYs : (Y ++ ⟨#[58]⟩).size ≤ 400 := by rw [ByteArray.size_append]; show _ + 1 ≤ _; omega
              obtain ⟨ts, hst, hlx⟩ := ty_lex (X := Y ++ ⟨#[58]⟩) (n := vbl n) (ws := vbl s) (tl := [58]) (tk := [(5, [58])]) hn1 hw1 (by rw [vbl_append, hY]; rfl) (by rw [← hY]; show (vbl Y ++ [58]).length ≤ 8000; rw [List.length_append]; show Y.size + 1 ≤ _; omega) (sep_of _ (by decide) (by decide)) (fun a acc => ⟨[⟨5, [58], a⟩], rfl, by rw [sign_go (by decide), lxG_nil]⟩)
              have htl : ts.length = (cnt93 (vbl s) + 1 + (vbl s).length) + 1 := by rw [← List.length_map (f := strip), hst, List.length_append, tk_len]; rfl
              have hvl : (vbl s).length = s.size := rfl
              have htz : ∀ t ∈ ts, t.s.length ≤ 1000000 := fun t ht => by
                have : strip t ∈ ts.map strip := List.mem_map.2 ⟨t, ht, rfl⟩
                rw [hst] at this
                rcases List.mem_append.1 this with h | h
                · exact tk_small (n := vbl n) (ws := vbl s) (by show n.size ≤ _; omega) (strip t) h
                · have e : strip t = (5, [58]) := by simpa using h
                  show (strip t).2.length ≤ _
                  rw [e]; decide
              have HA := fun W => lex_toks hlx (by omega) W (by omega)
              have hq1 : IntKind.i64.wrap ((ts.length : Int) - 1) = (ts.length : Int) - 1 := IntWalk.i64_in _ (by omega)
              have HST := Lib.hid hst
              have HTZ := Lib.hid htz
              have htsb : ts.length ≤ 200 := by omega
              have HC12 := Lib.hid hc1
              have HWR := Lib.hid hw1
              have hpos : 0 < ts.length := by omega
              clear hok HYS hY hlx hst htz htl hn1 hw1 hc1
              go_wp2_with fail
              refine HT2.mono ?_
              rintro e w22 ⟨rfl, b22⟩
              have bc := bc.trans (b22.mono bc.size)
              clear HT2 b22
              go_wp2_with fail
              refine (HA _).mono ?_
              rintro e w23 ⟨b23, g, cp1, rfl, hcap, hg1, hg2, hcc⟩
              have bc := bc.trans (b23.mono bc.size)
              have HV := type_some (a := some ⟨g, 0, none⟩) (nm := n) (ws := s) (tl := [(5, [58])]) w23 (fun _ => ⟨g, rfl, hcc⟩) hcap (by omega) HTZ.out HST.out HWR.out HC12.out (by rfl)
              rw [show ((ts.length - ([(5, [58])] : List Sk).length : Nat) : Int) = (ts.length : Int) - 1 by show ((ts.length - 1 : Nat) : Int) = _; omega] at HV
              clear HA b23 hcc
              go_wp2_with fail
              refine HV.mono ?_
              rintro e w24 ⟨b24, rfl⟩
              have bc := bc.trans (b24.mono bc.size)
              have bc2 := bc.alloc bc.size (.cells #[.string n, .string s] 27)
              obtain ⟨g0, g1, g2, g3, t0, t1⟩ := F _ bc
              have hl24 : w.heap.size + 1 < w24.heap.size := by have := bc.size; omega
              clear HV b24
              go_wp2_with fail
              refine (vAwake _).mono ?_
              rintro e w25 ⟨rfl, b25⟩
              go_wp2_with fail
              go_ret
              exact ⟨rfl, (BV.trans (bc2.mono BV.size)).trans (b25.mono (BV.trans (bc2.mono BV.size)).size)⟩

end Go.Proofs.YtiblffipfldgjaaGreatDoor

/-
  JvalAll, bounded: what the arguments read as: values as trees whose texts are short.
-/
namespace Go.Proofs.YtiblffipfldgjaaGreatDoor
open Go.ChangeShapes Go.WideShapes Go.RowKit

theorem bulk_one {H : Type} (d : DataW H) : 1 ≤ Rows.uptoBulk d := by
  cases d with
  | lit l => cases l <;> simp [Rows.uptoBulk]
  | nil => simp [Rows.uptoBulk]
  | ptr d => simp [Rows.uptoBulk]
  | slice elems spare => simp [Rows.uptoBulk]
  | agg parts => simp [Rows.uptoBulk]
  | iface t d => simp [Rows.uptoBulk]
  | map entries => simp [Rows.uptoBulk]
  | held h => simp [Rows.uptoBulk]
theorem bulk_mem {H : Type} {d : DataW H} : ∀ {l : List (DataW H)}, d ∈ l → Rows.uptoBulk d ≤ Rows.uptoBulkAll l
  | [], h => by cases h
  | x :: r, h => by
    simp only [Rows.uptoBulkAll]
    rcases List.mem_cons.1 h with e | e
    · subst e; omega
    · have := bulk_mem e; omega
theorem bulk_len {H : Type} : ∀ (l : List (DataW H)), l.length ≤ Rows.uptoBulkAll l
  | [] => Nat.zero_le _
  | x :: r => by have h1 := bulk_one x; have h2 := bulk_len r; simp only [Rows.uptoBulkAll, List.length_cons]; omega

/-- How long a list of parts is at most. -/
theorem pts_len (f : JV → List UInt8) (ob : Bool) : ∀ (ps : List JV) (ns : List ByteArray) (fst : Bool), (pts f ob fst ns ps).length ≤ (ps.map fun p => (f p).length + 4).sum + 6 * (ns.map fun n => n.size).sum
  | [], _, _ => Nat.zero_le _
  | p :: ps, ns, fst => by
    have h1 := pts_len f ob ps ns.tail false
    have e4 : (if fst then ([] : List UInt8) else [44]).length ≤ 1 := by cases fst <;> decide
    have e5 : (if ob then quoteB (vbl (ns.headD ⟨#[]⟩)) ++ [58] else []).length ≤ 6 * (ns.headD ⟨#[]⟩).size + 3 := by
      cases ob
      · exact Nat.zero_le _
      · show (quoteB _ ++ [58]).length ≤ _
        have h2 := quoteIn_len (vbl (ns.headD ⟨#[]⟩))
        have h3 : (vbl (ns.headD ⟨#[]⟩)).length = (ns.headD ⟨#[]⟩).size := rfl
        rw [List.length_append]
        unfold quoteB
        split
        · simp only [List.length_cons, List.length_append, List.length_nil]; omega
        · simp
    have e6 : (ns.map fun n => n.size).sum = (ns.headD ⟨#[]⟩).size + (ns.tail.map fun n => n.size).sum := by
      cases ns with
      | nil => rfl
      | cons a r => simp
    unfold pts
    simp only [List.length_append, List.map_cons, List.sum_cons]
    omega

section
variable {H : Type} {enc : TypeId × Value → H} {W : World} {base : Nat} {sp : Nat → Bool} {held : Bool}

theorem plain_addr {a : Addr} {v : Value} (h : W.cell? a = some v) : ∃ b off, a = ⟨b, off, none⟩ := by
  obtain ⟨b, off, spot⟩ := a
  have hspot : spot = none := by simpa using World.cell?_spot h
  subst hspot
  exact ⟨b, off, rfl⟩

theorem strs_read {fuel : Nat} {cs : List Value} {d : DataW H} {p : List MemPlace} (h : DataW.trod enc Tryz.prog W base sp held fuel 22 cs = some (d, p)) (hb : Rows.uptoBulk d ≤ 1048576) :
    ∃ (a : Option Addr) (cap : Nat) (ns : List ByteArray), cs = [.slice a ns.length cap] ∧ ns.length ≤ cap ∧ ns.length ≤ 1048576 ∧ Strs W W.heap.size a ns ∧ (ns.map fun n => n.size).sum + ns.length + 1 ≤ Rows.uptoBulk d := by
  rcases DataW.trod_slice Tryz.underlying22 h with ⟨rfl, e⟩ | ⟨a, len, cap, elems, rest, n, _, rfl, e, _, hl, hm, hlen, hel, _⟩
  · injection e with e1 _
    subst e1
    exact ⟨none, 0, [], rfl, Nat.le_refl _, Nat.zero_le _, fun h => absurd h (Nat.not_lt_zero _), by simp [Rows.uptoBulk]⟩
  · injection e with e1 _
    subst e1
    have hc1 : Tryz.prog.cellsOf 9 = 1 := by kernel_rfl
    rw [hc1] at hel
    obtain ⟨f, hf⟩ := Go.Deep.choose_lt (α := ByteArray) (n := len) (p := fun i s => W.cell? (a.add i) = some (.string s) ∧ elems[i]? = some (.lit (.string s.data.toList), [])) (fun i hi => by
      have h1 := hel i hi
      rw [List.getElem?_eq_getElem (by omega)] at h1
      obtain ⟨cs', h2, h3⟩ := Option.bind_eq_some_iff.1 h1
      obtain ⟨s, rfl, h4, _⟩ := DataW.trod_string Tryz.underlying9 h3
      obtain ⟨_, _, h5⟩ := World.cells?_some h2
      have h6 := h5 0 (by omega)
      rw [Nat.mul_one] at h6
      refine ⟨s, ?_, by rw [List.getElem?_eq_getElem (by omega), h4]⟩
      have : (a.add i).add 0 = a.add i := by rw [Go.Deep.add_add]; rfl
      rw [this] at h6
      exact h6)
    have hel2 : elems = (List.range len).map fun i => ((.lit (.string (f i).data.toList) : DataW H), ([] : List MemPlace)) := by
      apply List.ext_getElem?
      intro i
      by_cases hi : i < len
      · rw [(hf i hi).2]; simp [hi]
      · rw [List.getElem?_eq_none (by omega)]; simp [hi]
    have hbk : ∀ (l : List Nat), ((l.map f).map fun n => n.size).sum + (l.map f).length ≤ Rows.uptoBulkAll (l.map fun i => (.lit (.string (f i).data.toList) : DataW H)) := by
      intro l
      induction l with
      | nil => exact Nat.zero_le _
      | cons i l ih =>
        simp only [List.map_cons, List.sum_cons, List.length_cons, Rows.uptoBulkAll, Rows.uptoBulk]
        have : (f i).data.toList.length = (f i).size := rfl
        omega
    have hb1 := hbk (List.range len)
    have hel3 : elems.map (·.1) = (List.range len).map fun i => (.lit (.string (f i).data.toList) : DataW H) := by rw [hel2, List.map_map]; rfl
    have hb2 : Rows.uptoBulkAll ((List.range len).map fun i => (.lit (.string (f i).data.toList) : DataW H)) + 1 ≤ Rows.uptoBulk (.slice (elems.map (·.1)) (rest.map (·.1)) : DataW H) := by rw [hel3]; simp only [Rows.uptoBulk]; omega
    have hb3 : ((List.range len).map f).length = len := by simp
    refine ⟨some a, cap, (List.range len).map f, by rw [hb3], by rw [hb3]; exact hl, ?_, fun hp => ?_, ?_⟩
    · have := Nat.le_trans hb2 hb
      omega
    · rw [hb3] at hp
      obtain ⟨b, off, rfl⟩ : ∃ b off, a = ⟨b, off, none⟩ := by
        have h0 := (hf 0 hp).1
        exact plain_addr (a := a) (by simpa [Addr.add] using h0)
      refine ⟨b, off, rfl, ?_, fun j x hx => ?_⟩
      · have h0 := World.block_lt_of_cell? W _ (hf 0 hp).1
        simpa [Addr.add] using h0
      · obtain ⟨hj, rfl⟩ : j < len ∧ f j = x := by
          by_cases hj : j < len
          · simp [hj] at hx; exact ⟨hj, hx⟩
          · simp [hj] at hx
        refine ⟨?_, by have := (hf j hj).1; rwa [add_plain] at this⟩
        have hmem : (.lit (.string (f j).data.toList) : DataW H) ∈ (List.range len).map fun i => (.lit (.string (f i).data.toList) : DataW H) := List.mem_map.2 ⟨j, List.mem_range.2 hj, rfl⟩
        have h7 := bulk_mem hmem
        rw [show Rows.uptoBulk (.lit (.string (f j).data.toList) : DataW H) = (f j).size + 1 by simp only [Rows.uptoBulk]; rfl] at h7
        have h8 : Rows.uptoBulkAll ((List.range len).map fun i => (.lit (.string (f i).data.toList) : DataW H)) + 1 ≤ 1048576 := Nat.le_trans hb2 hb
        omega
    · refine Nat.le_trans ?_ hb2
      exact Nat.succ_le_succ hb1

theorem Rd.upto {w : World} {B n m : Nat} {x : JV} {v : Value} (h : Rd w B n x v) (hm : n ≤ m) : Rd w B m x v := by
  induction hm with
  | refl => exact h
  | step _ ih => exact ih.up

instance : Inhabited JV := ⟨.mk 0 ⟨#[]⟩ [] []⟩

set_option maxRecDepth 10000 in
theorem val_read : ∀ (fuel : Nat) (cs : List Value) (d : DataW H) (p : List MemPlace), DataW.trod enc Tryz.prog W base sp held fuel 25 cs = some (d, p) → Rows.uptoBulk d ≤ 1048576 →
    ∃ (x : JV) (c0 c1 c2 c3 : Value), cs = [c0, c1, c2, c3] ∧ Rd W W.heap.size (Rows.uptoBulk d / 4) x (.agg #[c0, c1, c2, c3]) ∧ (∀ q, (txt q x).length + 5 ≤ 10 * Rows.uptoBulk d) ∧ ∀ q, nodes q x ≤ Rows.uptoBulk d := by
  intro fuel
  induction fuel using Nat.strongRecOn with
  | ind fuel val_read =>
  intro cs d p h hb
  match fuel with
  | 0 => simp [DataW.trod] at h
  | fuel + 1 =>
    obtain ⟨xs, n, hn, e, hcl, hxl, hfs⟩ := DataW.trod_struct Tryz.underlying25 h
    obtain rfl : fuel = n := by omega
    injection e with e1 _
    subst e1
    have h4 : Tryz.prog.cellsOf 25 = 4 := by kernel_rfl
    rw [h4] at hcl
    obtain ⟨c0, c1, c2, c3, rfl⟩ : ∃ c0 c1 c2 c3, cs = [c0, c1, c2, c3] := by
      match cs, hcl with
      | [c0, c1, c2, c3], _ => exact ⟨c0, c1, c2, c3, rfl⟩
    obtain ⟨x0, x1, x2, x3, rfl⟩ : ∃ x0 x1 x2 x3, xs = [x0, x1, x2, x3] := by
      match xs, hxl with
      | [x0, x1, x2, x3], _ => exact ⟨x0, x1, x2, x3, rfl⟩
    have k1 : Tryz.prog.cellsOf 3 = 1 := by kernel_rfl
    have k2 : Tryz.prog.cellsOf 9 = 1 := by kernel_rfl
    have k3 : Tryz.prog.cellsOf 22 = 1 := by kernel_rfl
    have k4 : Tryz.prog.cellsOf 23 = 1 := by kernel_rfl
    have f0 : DataW.trod enc Tryz.prog W base sp held fuel 3 (([c0, c1, c2, c3].drop 0).take (Tryz.prog.cellsOf 3)) = some x0 := hfs 0 _ rfl
    rw [k1] at f0
    change DataW.trod enc Tryz.prog W base sp held fuel 3 [c0] = some x0 at f0
    have f1 : DataW.trod enc Tryz.prog W base sp held fuel 9 (([c0, c1, c2, c3].drop 1).take (Tryz.prog.cellsOf 9)) = some x1 := hfs 1 _ rfl
    rw [k2] at f1
    change DataW.trod enc Tryz.prog W base sp held fuel 9 [c1] = some x1 at f1
    have f2 : DataW.trod enc Tryz.prog W base sp held fuel 22 (([c0, c1, c2, c3].drop 2).take (Tryz.prog.cellsOf 22)) = some x2 := hfs 2 _ rfl
    rw [k3] at f2
    change DataW.trod enc Tryz.prog W base sp held fuel 22 [c2] = some x2 at f2
    have f3 : DataW.trod enc Tryz.prog W base sp held fuel 23 (([c0, c1, c2, c3].drop 3).take (Tryz.prog.cellsOf 23)) = some x3 := hfs 3 _ rfl
    rw [k4] at f3
    change DataW.trod enc Tryz.prog W base sp held fuel 23 [c3] = some x3 at f3
    obtain ⟨k, ek, rfl, _⟩ := DataW.trod_int Tryz.underlying3 f0
    obtain ⟨s, es, rfl, _⟩ := DataW.trod_string Tryz.underlying9 f1
    obtain ⟨d2, p2⟩ := x2
    obtain ⟨d3, p3⟩ := x3
    injection ek with ek _
    injection es with es _
    subst ek es
    have hbk : Rows.uptoBulk (.agg ([((.lit (.int .i64 k) : DataW H), ([] : List MemPlace)), (.lit (.string s.data.toList), []), (d2, p2), (d3, p3)].map (·.1)) : DataW H) = s.size + Rows.uptoBulk d2 + Rows.uptoBulk d3 + 3 := by
      simp only [List.map_cons, List.map_nil, Rows.uptoBulk, Rows.uptoBulkAll]
      have : s.data.toList.length = s.size := rfl
      omega
    rw [hbk] at hb ⊢
    obtain ⟨an, cn, ns, e2, hnc, hnl, hST, hns⟩ := strs_read f2 (by omega)
    injection e2 with e2 _
    subst e2
    obtain ⟨ap, cp, ps, e3, hpc, hpl, hRW, hps, hpn⟩ : ∃ (ap : Option Addr) (cp : Nat) (ps : List JV), c3 = .slice ap ps.length cp ∧ ps.length ≤ cp ∧ ps.length ≤ 1048576 ∧ Rows4 W W.heap.size (Rd W W.heap.size (Rows.uptoBulk d3 / 4)) ap ps ∧ (∀ q, (ps.map fun p => (txt q p).length + 4).sum ≤ 10 * (Rows.uptoBulk d3 - 1)) ∧ ∀ q, (ps.map (nodes q)).sum ≤ Rows.uptoBulk d3 - 1 := by
      rcases DataW.trod_slice Tryz.underlying23 f3 with ⟨e, e'⟩ | ⟨a, len, cap, elems, rest, m, hm, e, e', _, hl, _, hlen, hel, _⟩
      · injection e with e _
        injection e' with e' _
        subst e e'
        exact ⟨none, 0, [], rfl, Nat.le_refl _, Nat.zero_le _, fun h => absurd h (Nat.not_lt_zero _), fun q => Nat.zero_le _, fun q => Nat.zero_le _⟩
      · injection e with e _
        injection e' with e' _
        subst e e'
        rw [h4] at hel
        have hb3 : Rows.uptoBulkAll (elems.map (·.1)) + 1 ≤ Rows.uptoBulk (.slice (elems.map (·.1)) (rest.map (·.1)) : DataW H) := by simp only [Rows.uptoBulk]; omega
        have hD : elems.map (·.1) = (List.range len).map fun i => (elems.getD i ((.nil : DataW H), ([] : List MemPlace))).1 := by rw [Go.Deep.map_by_index elems (.nil, []) (·.1), hlen]
        obtain ⟨Y, hY⟩ := Go.Deep.choose_lt (α := JV) (n := len) (p := fun i y => ∃ b0 b1 b2 b3, W.cell? ((a.add (i * 4)).add 0) = some b0 ∧ W.cell? ((a.add (i * 4)).add 1) = some b1 ∧ W.cell? ((a.add (i * 4)).add 2) = some b2 ∧ W.cell? ((a.add (i * 4)).add 3) = some b3 ∧ Rd W W.heap.size (Rows.uptoBulk (.slice (elems.map (·.1)) (rest.map (·.1)) : DataW H) / 4) y (.agg #[b0, b1, b2, b3]) ∧ (∀ q, (txt q y).length + 5 ≤ 10 * Rows.uptoBulk (elems.getD i ((.nil : DataW H), ([] : List MemPlace))).1) ∧ ∀ q, nodes q y ≤ Rows.uptoBulk (elems.getD i ((.nil : DataW H), ([] : List MemPlace))).1) (fun i hi => by
          have h1 := hel i hi
          rw [List.getElem?_eq_getElem (by omega)] at h1
          obtain ⟨cs', h2, h3⟩ := Option.bind_eq_some_iff.1 h1
          have hg : elems.getD i ((.nil : DataW H), ([] : List MemPlace)) = elems[i]'(by omega) := by simp [List.getD, List.getElem?_eq_getElem (show i < elems.length by omega)]
          have hmem : (elems[i]'(by omega)).1 ∈ elems.map (·.1) := List.mem_map.2 ⟨_, List.getElem_mem _, rfl⟩
          have hbi := bulk_mem hmem
          obtain ⟨y, b0, b1, b2, b3, rfl, hR, ht, hnd⟩ := val_read m (by omega) cs' (elems[i]'(by omega)).1 (elems[i]'(by omega)).2 h3 (by omega)
          obtain ⟨_, _, h5⟩ := World.cells?_some h2
          exact ⟨y, b0, b1, b2, b3, h5 0 (by omega), h5 1 (by omega), h5 2 (by omega), h5 3 (by omega), hR.upto (Nat.div_le_div_right (by omega)), by rw [hg]; exact ht, by rw [hg]; exact hnd⟩)
        have hl2 : ((List.range len).map Y).length = len := by simp
        have hbl := bulk_len (elems.map (·.1))
        rw [List.length_map, hlen] at hbl
        refine ⟨some a, cap, (List.range len).map Y, by rw [hl2], by rw [hl2]; exact hl, by omega, fun hp => ?_, fun q => ?_, fun q => ?_⟩
        · rw [hl2] at hp
          obtain ⟨b, off, rfl⟩ : ∃ b off, a = ⟨b, off, none⟩ := by
            obtain ⟨b0, _, _, _, h0, _⟩ := hY 0 hp
            exact plain_addr (a := a) (by simpa [Addr.add] using h0)
          refine ⟨b, off, rfl, ?_, fun i x hx => ?_⟩
          · obtain ⟨b0, _, _, _, h0, _⟩ := hY 0 hp
            have h0 := World.block_lt_of_cell? W _ h0
            simpa [Addr.add] using h0
          · obtain ⟨hi, rfl⟩ : i < len ∧ Y i = x := by
              by_cases hi : i < len
              · simp [hi] at hx; exact ⟨hi, hx⟩
              · simp [hi] at hx
            obtain ⟨b0, b1, b2, b3, g0, g1, g2, g3, hR, _⟩ := hY i hi
            rw [add_plain, add_plain] at g0 g1 g2 g3
            exact ⟨b0, b1, b2, b3, ⟨g0, g1, g2, g3⟩, hR⟩
        · have hs : ∀ l : List Nat, (∀ i ∈ l, i < len) → ((l.map Y).map fun p => (txt q p).length + 4).sum ≤ 10 * Rows.uptoBulkAll (l.map fun i => (elems.getD i ((.nil : DataW H), ([] : List MemPlace))).1) := by
            intro l
            induction l with
            | nil => intro _; exact Nat.zero_le _
            | cons i l ih =>
              intro hl
              obtain ⟨_, _, _, _, _, _, _, _, _, ht, _⟩ := hY i (hl i (by simp))
              have h1 := ih fun j hj => hl j (by simp [hj])
              have h2 := ht q
              simp only [List.map_cons, List.sum_cons, Rows.uptoBulkAll]
              omega
          have h1 := hs (List.range len) fun i hi => List.mem_range.1 hi
          rw [← hD] at h1
          omega
        · have hs : ∀ l : List Nat, (∀ i ∈ l, i < len) → ((l.map Y).map (nodes q)).sum ≤ Rows.uptoBulkAll (l.map fun i => (elems.getD i ((.nil : DataW H), ([] : List MemPlace))).1) := by
            intro l
            induction l with
            | nil => intro _; exact Nat.zero_le _
            | cons i l ih =>
              intro hl
              obtain ⟨_, _, _, _, _, _, _, _, _, _, ht⟩ := hY i (hl i (by simp))
              have h1 := ih fun j hj => hl j (by simp [hj])
              have h2 := ht q
              simp only [List.map_cons, List.sum_cons, Rows.uptoBulkAll]
              omega
          have h1 := hs (List.range len) fun i hi => List.mem_range.1 hi
          rw [← hD] at h1
          omega
    subst e3
    have hsz : s.size ≤ 1048576 := by omega
    have hd2 := bulk_one d2
    have hd3 := bulk_one d3
    have hR : Rd W W.heap.size (Rows.uptoBulk d3 / 4 + 1) (.mk k s ns ps) (.agg #[.int .i64 k, .string s, .slice an ns.length cn, .slice ap ps.length cp]) := ⟨an, cn, ap, cp, rfl, ⟨by show s.size ≤ _; omega, by show ns.length ≤ _; omega, by show ps.length ≤ _; omega, hnc, hpc⟩, hST, hRW⟩
    refine ⟨.mk k s ns ps, _, _, _, _, rfl, hR.upto (by omega), fun q => ?_, fun q => ?_⟩
    rotate_left
    · cases q with
      | zero => exact Nat.zero_le _
      | succ q =>
        have := hpn q
        show 1 + (ps.map (nodes q)).sum ≤ _
        omega
    have hsl : (vbl s).length = s.size := rfl
    cases q with
    | zero => show 0 + 5 ≤ _; omega
    | succ q =>
      have hp7 := pts_len (txt q) false ps ns true
      have hp8 := pts_len (txt q) true ps ns true
      have hq := hps q
      by_cases h1 : k = 1
      · rw [txt_null (x := .mk k s ns ps) h1]; show 4 + 5 ≤ _; omega
      by_cases h5 : k = 5
      · rw [txt_str (x := .mk k s ns ps) h5]
        show (quoteB (vbl s)).length + 5 ≤ _
        have := quoteIn_len (vbl s)
        unfold quoteB
        split
        · simp only [List.length_cons, List.length_append, List.length_nil]; omega
        · simp only [List.length_nil]; omega
      by_cases h7 : k = 7
      · rw [txt_list (x := .mk k s ns ps) h7]
        simp only [List.length_append, List.length_singleton]
        show 1 + ((pts (txt q) false true ns ps).length + 1) + 5 ≤ _
        omega
      by_cases h8 : k = 8
      · rw [txt_obj (x := .mk k s ns ps) h8]
        simp only [List.length_append, List.length_singleton]
        show 1 + ((pts (txt q) true true ns ps).length + 1) + 5 ≤ _
        omega
      rw [txt_leaf (x := .mk k s ns ps) h1 h5 h7 h8]
      show (vbl s).length + 5 ≤ _
      omega

end
end Go.Proofs.YtiblffipfldgjaaGreatDoor

/-
  ValueBack, bounded: what the argument reads as: a value as a tree whose text is short.
-/
namespace Go.Proofs.YtiblffipfldgjaaGreatDoor
open Go.ChangeShapes Go.WideShapes Go.RowKit

theorem vpts_len (f : JV → List UInt8) (ob : Bool) : ∀ (ps : List JV) (ns : List ByteArray) (fst : Bool), (vpts f ob fst ns ps).length ≤ (ps.map fun p => (f p).length + 4).sum + 6 * (ns.map fun n => n.size).sum
  | [], _, _ => Nat.zero_le _
  | p :: ps, ns, fst => by
    have h1 := vpts_len f ob ps ns.tail false
    have e4 : (if fst then ([] : List UInt8) else [32]).length ≤ 1 := by cases fst <;> decide
    have e5 : (if ob then vbl (ns.headD ⟨#[]⟩) ++ [58] else []).length ≤ 6 * (ns.headD ⟨#[]⟩).size + 3 := by
      cases ob
      · exact Nat.zero_le _
      · show (vbl _ ++ [58]).length ≤ _
        have h3 : (vbl (ns.headD ⟨#[]⟩)).length = (ns.headD ⟨#[]⟩).size := rfl
        rw [List.length_append, List.length_singleton]
        omega
    have e6 : (ns.map fun n => n.size).sum = (ns.headD ⟨#[]⟩).size + (ns.tail.map fun n => n.size).sum := by
      cases ns with
      | nil => rfl
      | cons a r => simp
    unfold vpts
    simp only [List.length_append, List.map_cons, List.sum_cons]
    omega
theorem leafT_len (x : JV) : (leafT x).length ≤ 6 * x.s.size + 4 := by
  have hs : (vbl x.s).length = x.s.size := rfl
  unfold leafT
  split
  · show 4 ≤ _; omega
  split
  · have := quoteIn_len (vbl x.s)
    unfold quoteB
    split
    · simp only [List.length_cons, List.length_append, List.length_nil]; omega
    · simp only [List.length_nil]; omega
  split
  · rw [List.length_cons]; omega
  · omega

section
variable {H : Type} {enc : TypeId × Value → H} {W : World} {base : Nat} {sp : Nat → Bool} {held : Bool}

set_option maxRecDepth 10000 in
theorem vval_read : ∀ (fuel : Nat) (cs : List Value) (d : DataW H) (p : List MemPlace), DataW.trod enc Tryz.prog W base sp held fuel 25 cs = some (d, p) → Rows.uptoBulk d ≤ 1048576 →
    ∃ (x : JV) (c0 c1 c2 c3 : Value), cs = [c0, c1, c2, c3] ∧ Rd W W.heap.size (Rows.uptoBulk d / 4) x (.agg #[c0, c1, c2, c3]) ∧ (∀ q, (vtxt q x).length + 5 ≤ 10 * Rows.uptoBulk d) ∧ ∀ q, nodes q x ≤ Rows.uptoBulk d := by
  intro fuel
  induction fuel using Nat.strongRecOn with
  | ind fuel vval_read =>
  intro cs d p h hb
  match fuel with
  | 0 => simp [DataW.trod] at h
  | fuel + 1 =>
    obtain ⟨xs, n, hn, e, hcl, hxl, hfs⟩ := DataW.trod_struct Tryz.underlying25 h
    obtain rfl : fuel = n := by omega
    injection e with e1 _
    subst e1
    have h4 : Tryz.prog.cellsOf 25 = 4 := by kernel_rfl
    rw [h4] at hcl
    obtain ⟨c0, c1, c2, c3, rfl⟩ : ∃ c0 c1 c2 c3, cs = [c0, c1, c2, c3] := by
      match cs, hcl with
      | [c0, c1, c2, c3], _ => exact ⟨c0, c1, c2, c3, rfl⟩
    obtain ⟨x0, x1, x2, x3, rfl⟩ : ∃ x0 x1 x2 x3, xs = [x0, x1, x2, x3] := by
      match xs, hxl with
      | [x0, x1, x2, x3], _ => exact ⟨x0, x1, x2, x3, rfl⟩
    have k1 : Tryz.prog.cellsOf 3 = 1 := by kernel_rfl
    have k2 : Tryz.prog.cellsOf 9 = 1 := by kernel_rfl
    have k3 : Tryz.prog.cellsOf 22 = 1 := by kernel_rfl
    have k4 : Tryz.prog.cellsOf 23 = 1 := by kernel_rfl
    have f0 : DataW.trod enc Tryz.prog W base sp held fuel 3 (([c0, c1, c2, c3].drop 0).take (Tryz.prog.cellsOf 3)) = some x0 := hfs 0 _ rfl
    rw [k1] at f0
    change DataW.trod enc Tryz.prog W base sp held fuel 3 [c0] = some x0 at f0
    have f1 : DataW.trod enc Tryz.prog W base sp held fuel 9 (([c0, c1, c2, c3].drop 1).take (Tryz.prog.cellsOf 9)) = some x1 := hfs 1 _ rfl
    rw [k2] at f1
    change DataW.trod enc Tryz.prog W base sp held fuel 9 [c1] = some x1 at f1
    have f2 : DataW.trod enc Tryz.prog W base sp held fuel 22 (([c0, c1, c2, c3].drop 2).take (Tryz.prog.cellsOf 22)) = some x2 := hfs 2 _ rfl
    rw [k3] at f2
    change DataW.trod enc Tryz.prog W base sp held fuel 22 [c2] = some x2 at f2
    have f3 : DataW.trod enc Tryz.prog W base sp held fuel 23 (([c0, c1, c2, c3].drop 3).take (Tryz.prog.cellsOf 23)) = some x3 := hfs 3 _ rfl
    rw [k4] at f3
    change DataW.trod enc Tryz.prog W base sp held fuel 23 [c3] = some x3 at f3
    obtain ⟨k, ek, rfl, _⟩ := DataW.trod_int Tryz.underlying3 f0
    obtain ⟨s, es, rfl, _⟩ := DataW.trod_string Tryz.underlying9 f1
    obtain ⟨d2, p2⟩ := x2
    obtain ⟨d3, p3⟩ := x3
    injection ek with ek _
    injection es with es _
    subst ek es
    have hbk : Rows.uptoBulk (.agg ([((.lit (.int .i64 k) : DataW H), ([] : List MemPlace)), (.lit (.string s.data.toList), []), (d2, p2), (d3, p3)].map (·.1)) : DataW H) = s.size + Rows.uptoBulk d2 + Rows.uptoBulk d3 + 3 := by
      simp only [List.map_cons, List.map_nil, Rows.uptoBulk, Rows.uptoBulkAll]
      have : s.data.toList.length = s.size := rfl
      omega
    rw [hbk] at hb ⊢
    obtain ⟨an, cn, ns, e2, hnc, hnl, hST, hns⟩ := strs_read f2 (by omega)
    injection e2 with e2 _
    subst e2
    obtain ⟨ap, cp, ps, e3, hpc, hpl, hRW, hps, hpn⟩ : ∃ (ap : Option Addr) (cp : Nat) (ps : List JV), c3 = .slice ap ps.length cp ∧ ps.length ≤ cp ∧ ps.length ≤ 1048576 ∧ Rows4 W W.heap.size (Rd W W.heap.size (Rows.uptoBulk d3 / 4)) ap ps ∧ (∀ q, (ps.map fun p => (vtxt q p).length + 4).sum ≤ 10 * (Rows.uptoBulk d3 - 1)) ∧ ∀ q, (ps.map (nodes q)).sum ≤ Rows.uptoBulk d3 - 1 := by
      rcases DataW.trod_slice Tryz.underlying23 f3 with ⟨e, e'⟩ | ⟨a, len, cap, elems, rest, m, hm, e, e', _, hl, _, hlen, hel, _⟩
      · injection e with e _
        injection e' with e' _
        subst e e'
        exact ⟨none, 0, [], rfl, Nat.le_refl _, Nat.zero_le _, fun h => absurd h (Nat.not_lt_zero _), fun q => Nat.zero_le _, fun q => Nat.zero_le _⟩
      · injection e with e _
        injection e' with e' _
        subst e e'
        rw [h4] at hel
        have hb3 : Rows.uptoBulkAll (elems.map (·.1)) + 1 ≤ Rows.uptoBulk (.slice (elems.map (·.1)) (rest.map (·.1)) : DataW H) := by simp only [Rows.uptoBulk]; omega
        have hD : elems.map (·.1) = (List.range len).map fun i => (elems.getD i ((.nil : DataW H), ([] : List MemPlace))).1 := by rw [Go.Deep.map_by_index elems (.nil, []) (·.1), hlen]
        obtain ⟨Y, hY⟩ := Go.Deep.choose_lt (α := JV) (n := len) (p := fun i y => ∃ b0 b1 b2 b3, W.cell? ((a.add (i * 4)).add 0) = some b0 ∧ W.cell? ((a.add (i * 4)).add 1) = some b1 ∧ W.cell? ((a.add (i * 4)).add 2) = some b2 ∧ W.cell? ((a.add (i * 4)).add 3) = some b3 ∧ Rd W W.heap.size (Rows.uptoBulk (.slice (elems.map (·.1)) (rest.map (·.1)) : DataW H) / 4) y (.agg #[b0, b1, b2, b3]) ∧ (∀ q, (vtxt q y).length + 5 ≤ 10 * Rows.uptoBulk (elems.getD i ((.nil : DataW H), ([] : List MemPlace))).1) ∧ ∀ q, nodes q y ≤ Rows.uptoBulk (elems.getD i ((.nil : DataW H), ([] : List MemPlace))).1) (fun i hi => by
          have h1 := hel i hi
          rw [List.getElem?_eq_getElem (by omega)] at h1
          obtain ⟨cs', h2, h3⟩ := Option.bind_eq_some_iff.1 h1
          have hg : elems.getD i ((.nil : DataW H), ([] : List MemPlace)) = elems[i]'(by omega) := by simp [List.getD, List.getElem?_eq_getElem (show i < elems.length by omega)]
          have hmem : (elems[i]'(by omega)).1 ∈ elems.map (·.1) := List.mem_map.2 ⟨_, List.getElem_mem _, rfl⟩
          have hbi := bulk_mem hmem
          obtain ⟨y, b0, b1, b2, b3, rfl, hR, ht, hnd⟩ := vval_read m (by omega) cs' (elems[i]'(by omega)).1 (elems[i]'(by omega)).2 h3 (by omega)
          obtain ⟨_, _, h5⟩ := World.cells?_some h2
          exact ⟨y, b0, b1, b2, b3, h5 0 (by omega), h5 1 (by omega), h5 2 (by omega), h5 3 (by omega), hR.upto (Nat.div_le_div_right (by omega)), by rw [hg]; exact ht, by rw [hg]; exact hnd⟩)
        have hl2 : ((List.range len).map Y).length = len := by simp
        have hbl := bulk_len (elems.map (·.1))
        rw [List.length_map, hlen] at hbl
        refine ⟨some a, cap, (List.range len).map Y, by rw [hl2], by rw [hl2]; exact hl, by omega, fun hp => ?_, fun q => ?_, fun q => ?_⟩
        · rw [hl2] at hp
          obtain ⟨b, off, rfl⟩ : ∃ b off, a = ⟨b, off, none⟩ := by
            obtain ⟨b0, _, _, _, h0, _⟩ := hY 0 hp
            exact plain_addr (a := a) (by simpa [Addr.add] using h0)
          refine ⟨b, off, rfl, ?_, fun i x hx => ?_⟩
          · obtain ⟨b0, _, _, _, h0, _⟩ := hY 0 hp
            have h0 := World.block_lt_of_cell? W _ h0
            simpa [Addr.add] using h0
          · obtain ⟨hi, rfl⟩ : i < len ∧ Y i = x := by
              by_cases hi : i < len
              · simp [hi] at hx; exact ⟨hi, hx⟩
              · simp [hi] at hx
            obtain ⟨b0, b1, b2, b3, g0, g1, g2, g3, hR, _⟩ := hY i hi
            rw [add_plain, add_plain] at g0 g1 g2 g3
            exact ⟨b0, b1, b2, b3, ⟨g0, g1, g2, g3⟩, hR⟩
        · have hs : ∀ l : List Nat, (∀ i ∈ l, i < len) → ((l.map Y).map fun p => (vtxt q p).length + 4).sum ≤ 10 * Rows.uptoBulkAll (l.map fun i => (elems.getD i ((.nil : DataW H), ([] : List MemPlace))).1) := by
            intro l
            induction l with
            | nil => intro _; exact Nat.zero_le _
            | cons i l ih =>
              intro hl
              obtain ⟨_, _, _, _, _, _, _, _, _, ht, _⟩ := hY i (hl i (by simp))
              have h1 := ih fun j hj => hl j (by simp [hj])
              have h2 := ht q
              simp only [List.map_cons, List.sum_cons, Rows.uptoBulkAll]
              omega
          have h1 := hs (List.range len) fun i hi => List.mem_range.1 hi
          rw [← hD] at h1
          omega
        · have hs : ∀ l : List Nat, (∀ i ∈ l, i < len) → ((l.map Y).map (nodes q)).sum ≤ Rows.uptoBulkAll (l.map fun i => (elems.getD i ((.nil : DataW H), ([] : List MemPlace))).1) := by
            intro l
            induction l with
            | nil => intro _; exact Nat.zero_le _
            | cons i l ih =>
              intro hl
              obtain ⟨_, _, _, _, _, _, _, _, _, _, ht⟩ := hY i (hl i (by simp))
              have h1 := ih fun j hj => hl j (by simp [hj])
              have h2 := ht q
              simp only [List.map_cons, List.sum_cons, Rows.uptoBulkAll]
              omega
          have h1 := hs (List.range len) fun i hi => List.mem_range.1 hi
          rw [← hD] at h1
          omega
    subst e3
    have hsz : s.size ≤ 1048576 := by omega
    have hd2 := bulk_one d2
    have hd3 := bulk_one d3
    have hR : Rd W W.heap.size (Rows.uptoBulk d3 / 4 + 1) (.mk k s ns ps) (.agg #[.int .i64 k, .string s, .slice an ns.length cn, .slice ap ps.length cp]) := ⟨an, cn, ap, cp, rfl, ⟨by show s.size ≤ _; omega, by show ns.length ≤ _; omega, by show ps.length ≤ _; omega, hnc, hpc⟩, hST, hRW⟩
    refine ⟨.mk k s ns ps, _, _, _, _, rfl, hR.upto (by omega), fun q => ?_, fun q => ?_⟩
    rotate_left
    · cases q with
      | zero => exact Nat.zero_le _
      | succ q =>
        have := hpn q
        show 1 + (ps.map (nodes q)).sum ≤ _
        omega
    have hlf : (leafT (.mk k s ns ps)).length ≤ 6 * s.size + 4 := leafT_len _
    cases q with
    | zero =>
      unfold vtxt
      split
      · show 0 + 5 ≤ _; omega
      · omega
    | succ q =>
      have hp7 := vpts_len (vtxt q) false ps ns true
      have hp8 := vpts_len (vtxt q) true ps ns true
      have hq := hps q
      unfold vtxt
      split
      · simp only [List.length_append, List.length_singleton]
        show 1 + ((vpts (vtxt q) false true ns ps).length + 1) + 5 ≤ _
        omega
      split
      · simp only [List.length_append, List.length_singleton]
        show 1 + ((vpts (vtxt q) true true ns ps).length + 1) + 5 ≤ _
        omega
      · omega

end
end Go.Proofs.YtiblffipfldgjaaGreatDoor

/-
  For every input whose arguments hold together at most 1048576 values and letters (each counted each time it is reached) the law ValueBack returns true and leaves its arguments as they were: the bounded row, and its card over the variables that it lists.
-/
namespace Go.Proofs.YtiblffipfldgjaaGreatDoor
open Go.ChangeShapes Go.WideShapes Go.ChangeAt Go.RowKit
set_option linter.unusedVariables false

theorem list_two : ∀ l : List Value, l.length = 2 → ∃ a b, l = [a, b]
  | [a, b], _ => ⟨a, b, rfl⟩
  | [], h => by simp at h
  | [_], h => by simp at h
  | _ :: _ :: _ :: _, h => by simp at h
set_option maxRecDepth 100000 in
theorem varg_read (N : Nat) (hN : 262144 ≤ N) {H : Type} {enc : TypeId × Value → H} {W : World} {v : Value} {d : DataW H} {p : List MemPlace} {base0 base : Nat} {sp : Nat → Bool} {held : Bool} (hok : Value.okWide Tryz.prog W .any base0 25 v) (h : DataW.Trod enc Tryz.prog W base sp held 25 v d p) (hb : Rows.uptoBulk d ≤ 1048576) :
    ∃ x, Rd W W.heap.size (N + 1) x v ∧ (vtxt 12 x).length ≤ 100000000000 := by
  obtain ⟨cs, rfl, _⟩ := okWide_struct Tryz.underlying25 hok
  obtain ⟨fuel, hf⟩ := h
  obtain ⟨x, c0, c1, c2, c3, e, hR, ht, hn⟩ := vval_read fuel _ d p hf hb
  have e2 : cs = #[c0, c1, c2, c3] := by
    have : cs.toList = [c0, c1, c2, c3] := by simpa [Value.cells] using e
    rw [← this]
  subst e2
  exact ⟨x, hR.upto (by omega), by have := ht 12; omega⟩
set_option maxRecDepth 100000 in
theorem vtype_read {H : Type} {enc : TypeId × Value → H} {W : World} {v : Value} {d : DataW H} {p : List MemPlace} {base0 base : Nat} {sp : Nat → Bool} {held : Bool} (hok : Value.okWide Tryz.prog W .any base0 27 v) (h : DataW.Trod enc Tryz.prog W base sp held 27 v d p) :
    ∃ n s : ByteArray, v = .agg #[.string n, .string s] := by
  obtain ⟨cs, rfl, _⟩ := okWide_struct Tryz.underlying27 hok
  obtain ⟨fuel, hf⟩ := h
  match fuel with
  | 0 => simp [DataW.trod] at hf
  | fuel + 1 =>
    obtain ⟨xs, n, hn, e, hcl, hxl, hfs⟩ := DataW.trod_struct Tryz.underlying27 hf
    have h2 : Tryz.prog.cellsOf 27 = 2 := by kernel_rfl
    rw [h2] at hcl
    obtain ⟨c0, c1, hcs⟩ := list_two _ hcl
    obtain ⟨x0, x1, rfl⟩ : ∃ x0 x1, xs = [x0, x1] := by
      match xs, hxl with
      | [x0, x1], _ => exact ⟨x0, x1, rfl⟩
    have k2 : Tryz.prog.cellsOf 9 = 1 := by kernel_rfl
    rw [hcs] at hfs
    have f0 : DataW.trod enc Tryz.prog W base sp held n 9 (([c0, c1].drop 0).take (Tryz.prog.cellsOf 9)) = some x0 := hfs 0 _ rfl
    rw [k2] at f0
    change DataW.trod enc Tryz.prog W base sp held n 9 [c0] = some x0 at f0
    have f1 : DataW.trod enc Tryz.prog W base sp held n 9 (([c0, c1].drop 1).take (Tryz.prog.cellsOf 9)) = some x1 := hfs 1 _ rfl
    rw [k2] at f1
    change DataW.trod enc Tryz.prog W base sp held n 9 [c1] = some x1 at f1
    obtain ⟨s0, e0, _, _⟩ := DataW.trod_string Tryz.underlying9 f0
    obtain ⟨s1, e1, _, _⟩ := DataW.trod_string Tryz.underlying9 f1
    injection e0 with e0 _
    injection e1 with e1 _
    subst e0 e1
    have e2 : cs = #[.string s0, .string s1] := by
      have : cs.toList = [.string s0, .string s1] := by simpa [Value.cells] using hcs
      rw [← this]
    exact ⟨s0, s1, by rw [e2]⟩

set_option maxRecDepth 100000 in
theorem valueBack_contract (H : Type) (enc : TypeId × Value → H) (W : World) (base : Nat) (args : Array Value) (ds gs : List (DataW H)) (before : List MemPlace)
    (hval : ∀ (j : Nat) t v, Tryz.f3.params[j]? = some t → args[j]? = some v → Value.okWide Tryz.prog W .any base t v)
    (hW : DataW.Whole enc Tryz.prog Tryz.f3.params.toList Rows.valueBackSpec.vars false W args.toList ds gs before) (hk : Rows.uptoBulkAll (ds ++ gs) ≤ 1048576) (hsh : W.ShapedOpen Tryz.prog) :
    Calls Tryz.prog 3 args W fun e W' => ∃ v, e = .returned v ∧ Rows.valueBackSpec.post enc Tryz.prog Tryz.f3 false true false false W args v W' := by
  have hW' := hW
  obtain ⟨p, q, hA0, hV, rfl, hfz, hnd⟩ := hW
  have hA : DataW.TrodAll enc Tryz.prog W 0 (fun _ => true) true Tryz.f3.params.toList args.toList ds p := hA0
  rw [Tryz.params3] at hA hval
  obtain ⟨v0, vs0, d0, ds0, p0, q0, hargs, rfl, rfl, h0, r0⟩ := trodAll_cons hA
  obtain ⟨v1, vs1, d1, ds1, p1, q1, rfl, rfl, rfl, h1, r1⟩ := trodAll_cons r0
  obtain ⟨rfl, rfl, rfl⟩ := trodAll_nil r1
  obtain rfl : args = #[v0, v1] := by cases args; simp_all
  obtain ⟨rfl, rfl⟩ := trodVars_none hV
  simp only [List.append_nil, Rows.uptoBulkAll] at hk
  obtain ⟨N, hN1⟩ : ∃ N : Nat, 262144 ≤ N := ⟨262144, by omega⟩
  have k0 := h0
  have k1 := h1
  have lt0 : ∀ x ∈ p0, x.block < W.heap.size := by obtain ⟨m, hm⟩ := k0; exact DataW.trod_lt m _ _ _ hm
  have lt1 : ∀ x ∈ p1, x.block < W.heap.size := by obtain ⟨m, hm⟩ := k1; exact DataW.trod_lt m _ _ _ hm
  obtain ⟨x, hRx, htx⟩ := varg_read N hN1 (hval 0 25 v0 rfl rfl) h0 (by omega)
  obtain ⟨n, s, rfl⟩ := vtype_read (hval 1 27 v1 rfl rfl) h1
  clear hA0
  refine (valueBack_walk N x v0 n s W hRx htx (Tryz.laysM144.s1_3 W hsh)).mono fun e W' ⟨he, bel⟩ => ?_
  subst he
  exact ⟨_, rfl, _, _, _, [], _, [], hW', trodAll_mk1 (shut_bool Tryz.underlying4 _), (trodAll_cons_mk (Below.trod laidOut (by kernel_rfl) (of_decide_eq_true (by kernel_rfl)) k0 bel lt0) (trodAll_cons_mk (Below.trod laidOut (by kernel_rfl) (of_decide_eq_true (by kernel_rfl)) k1 bel lt1) trodAll_mk0)), rfl, bel.frame _, fun h => by cases h⟩

def zeroArg : Value := .agg #[.int .i64 0, .string ⟨#[]⟩, .slice none 0 0, .slice none 0 0]
def zeroTyp : Value := .agg #[.string ⟨#[]⟩, .string ⟨#[]⟩]
theorem valueBack_met (os : Os) : laidMet Tryz.prog Rows.valueBackUptoRow.laid ((laidWorld os).forCall (fun _ _ => 0) ⟨#[], #[zeroArg, zeroTyp], []⟩).memory := laidMet_of_run' 8 (by kernel_rfl) (by kernel_rfl)
theorem valueBack_reads (os : Os) {H : Type} (enc : TypeId × Value → H) : ∃ places, DataW.whole enc Tryz.prog ((laidWorld os).forCall (fun _ _ => 0) ⟨#[], #[zeroArg, zeroTyp], []⟩).memory Tryz.f3.params.toList Rows.valueBackSpec.vars false (#[zeroArg, zeroTyp] : Array Value).toList 8 = some ([.agg [.lit (.int .i64 0), .lit (.string []), .nil, .nil], .agg [.lit (.string []), .lit (.string [])]], [], places) := ⟨[], by kernel_rfl⟩
set_option maxRecDepth 100000 in
theorem valueBack_lifted (os : Os) (started : os.Started) (H : Type) (enc : TypeId × Value → H) (F : Stop.Interp) :
    ReturnsInHanded {} Tryz.checked os 3 .any ((Rows.OpenSpec.upto Rows.valueBackSpec).preRow enc Tryz.prog Tryz.f3 Rows.valueBackUptoRow.domain false Rows.valueBackUptoRow.laid) (((Rows.OpenSpec.upto Rows.valueBackSpec).at F).post enc Tryz.prog Tryz.f3 false true false false) := by
  obtain ⟨places, hx⟩ := valueBack_reads os enc
  refine returnsInHanded_of_row (C := Tryz.checked) (s := Rows.OpenSpec.upto Rows.valueBackSpec) laidOwn started (by kernel_rfl) Tryz.func3
    (witness_row_at (enc := enc) (C := Tryz.checked) false (laidWorld os) #[zeroArg, zeroTyp] rfl (by kernel_rfl) (by kernel_rfl) (by kernel_rfl)
      (OpenSpec.preRow_of_cond 8 hx (by kernel_rfl) (fun k hk => by cases hk; kernel_rfl) (by kernel_rfl) (valueBack_met os))) ?_
  intro W base args ds gs before hval hW _ hcond _ hL hsh _
  have hk : Rows.uptoSmall H (ds ++ gs) = true := hcond _ rfl
  have hk2 : Rows.uptoBulkAll (ds ++ gs) ≤ 1048576 := of_decide_eq_true hk
  exact valueBack_contract H enc W base args ds gs before hval hW hk2 hsh

theorem valueBack_said : Rows.ValueBackUptoSaid :=
  OpenClaim.holds_of_cond 3 Tryz.f3 rfl rfl rfl rfl rfl rfl rfl ⟨rfl, rfl, rfl, rfl, rfl⟩ rfl rfl rfl rfl rfl (by kernel_rfl) Tryz.func3 (by kernel_rfl)
    (of_decide_eq_true (by kernel_rfl)) (by unfold Func.isWrapper; first | (rw [if_pos (by decide +kernel)]; kernel_rfl) | (rw [if_neg (by decide +kernel)]; exact ⟨rfl, rfl⟩))
    (fun os started H enc _ F => by rw [OpenClaim.pre_eq_preRow]; exact valueBack_lifted os started H enc F)

theorem valueBack_plain (f : FuncId) (fn : Func) (hf : Tryz.pinned.checked.prog.funcNamed "refectory/refectorylaw05.ValueBack" = some f) (hfn : Tryz.pinned.checked.prog.funcs[f]? = some fn) :
    true = Tryz.pinned.checked.prog.looks [] ∧ ∀ (j : Nat) t, fn.params[j]? = some t → Tryz.pinned.checked.prog.wantsStandIn t = false := by
  obtain rfl : f = 3 := Option.some.inj ((show Tryz.prog.funcNamed "refectory/refectorylaw05.ValueBack" = some 3 by kernel_rfl).symm.trans hf) |>.symm
  obtain rfl : fn = Tryz.f3 := (Option.some.inj (Tryz.func3.symm.trans hfn)).symm
  refine ⟨by kernel_rfl, fun j t ht => ?_⟩
  rw [Tryz.params3] at ht
  have hm : t ∈ [25, 27] := by have := Array.mem_of_getElem? ht; simp at this ⊢; omega
  have hall : ([25, 27].all fun u => !Tryz.prog.wantsStandIn u) = true := by kernel_rfl
  exact (show Tryz.prog.wantsStandIn t = false by simpa using List.all_eq_true.1 hall t hm)

theorem valueBack_card : Rows.ValueBackUptoCardSaid :=
  Claim7.holds_tied_plain_at .later [] _ _ _ _ valueBack_said (fun _ h => by cases h) (by kernel_rfl) (fun _ h => by cases h) valueBackUpto_row_tie rfl ⟨rfl, rfl⟩ (by kernel_rfl) rfl valueBack_plain (by kernel_rfl)

#print axioms valueBack_card
end Go.Proofs.YtiblffipfldgjaaGreatDoor
