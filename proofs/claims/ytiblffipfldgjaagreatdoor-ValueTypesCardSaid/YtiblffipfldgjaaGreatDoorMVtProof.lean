/-
  The document's example of layer 5.
-/
import Derived.Test.YtiblffipfldgjaaGreatDoorMV7
import Derived.Test.YtiblffipfldgjaaGreatDoorMV12
import Derived.Test.YtiblffipfldgjaaGreatDoorRows
import Derived.Test.YtiblffipfldgjaaGreatDoorPlace
import Derived.Deep.Grids
import Derived.ProofKit
import Derived.OpenShut
import Derived.Test.YtiblffipfldgjaaGreatDoorMV18
import Derived.Test.YtiblffipfldgjaaGreatDoorLaid
import Derived.Test.YtiblffipfldgjaaGreatDoorCards
import Derived.Test.YtiblffipfldgjaaGreatDoorTie
import Derived.Deep.DeepHandedRow
namespace Go.Proofs.YtiblffipfldgjaaGreatDoor
open Go.RowKit

def awTs : List Tk := [⟨5, [91], 0⟩, ⟨2, [49], 1⟩, ⟨5, [36], 3⟩, ⟨1, [97], 4⟩, ⟨5, [93], 5⟩]
def awV : JV := .mk 7 ⟨#[]⟩ [] [.mk 3 ⟨#[49]⟩ [] [], .mk 9 ⟨#[97]⟩ [] []]
theorem aw_lex : lexP (⟨#[91, 49, 32, 36, 97, 93]⟩ : ByteArray).data.toList = (awTs, 0, 0) := by kernel_rfl
theorem aw_pv : pvT 12 (awTs.map strip) = (awV, [], 0) := by kernel_rfl
theorem aw_txt : vtextB awV = [91, 49, 32, 36, 97, 93] := by kernel_rfl
theorem aw_len : (vtxt 12 awV).length = 6 := by kernel_rfl

/-- What a value that was read looks like to those that read on. -/
theorem rdD_rd {W : World} {D : Nat → Prop} {n : Nat} {x : JV} {v : Value} (hD : ∀ b, D b → b < W.heap.size) (h : RdD W D n x v) (W' : World) (hb : Below W.heap.size W W') : Rd W' W.heap.size n x v := (h.toB hD).below hb

set_option maxHeartbeats 2000000 in
set_option maxRecDepth 100000 in
theorem vAwake (w : World) : Calls Tryz.prog 7 #[] w (TrueBelow w) := by
  have hA := fun W => lex_toks aw_lex (by decide) W (show 6 ≤ 1000000000 by decide)
  go_enter Tryz.func7, Tryz.ntmps7
  go_wp2_with fail
  refine (hA _).mono ?_
  rintro e w1 ⟨b1, g, cap, rfl, hcap, hg1, hg2, hc⟩
  have HV := valValue_any (ts := awTs) (a := some ⟨g, 0, none⟩) w1 (fun _ => ⟨g, rfl, hc⟩) hcap (by decide) (by decide)
  rw [aw_pv] at HV
  clear hc hA
  go_wp2_with fail
  refine HV.mono ?_
  rintro e w2 ⟨b2, v, rfl, _, hR⟩
  rw [if_pos (show (awV, ([] : List Sk), 0).2.2 = 0 from rfl)] at hR
  have HRd := Lib.hid (rdD_rd (fun b hd => hd.2) hR)
  obtain ⟨an, cn, ap, cp, rfl, _, _, hps⟩ := hR
  obtain ⟨gb, off, rfl, hgb, hcells⟩ := hps (by decide)
  obtain ⟨c0, c1, c2, c3, h4, hR1⟩ := hcells 1 (.mk 9 ⟨#[97]⟩ [] []) rfl
  obtain ⟨an1, cn1, ap1, cp1, e1⟩ := hR1.shape
  injection e1 with e1
  have e1' : [c0, c1, c2, c3] = [_, _, _, _] := congrArg Array.toList e1
  injection e1' with e0 e1'
  subst e0
  have hk : w2.cell? ⟨gb, off + 4, none⟩ = some (.int .i64 9) := h4.1
  have hglt := hgb.2
  have hW : Below w2.heap.size w2 (w2.alloc (.cells #[.int .i64 awV.k, .string awV.s, .slice an awV.ns.length cn, .slice (some ⟨gb, off, none⟩) awV.ps.length cp] 25)) := (Below.refl _ _).alloc (Nat.le_refl _) _
  have HT := vtext_any w2.heap.size 13 awV _ _ hW.size (HRd.out _ hW) (by rw [aw_len]; decide)
  rw [aw_txt] at HT
  have HB := Lib.hid ((b1.trans (b2.mono b1.size)).trans (hW.mono (b1.trans (b2.mono b1.size)).size))
  clear HV hps hcells h4 hR1 hW HRd hgb e1 e1'
  go_wp2_with fail
  refine HT.mono ?_
  rintro e w3 ⟨rfl, b3⟩
  go_wp2_with fail
  go_ret
  exact ⟨rfl, HB.out.trans (b3.mono HB.out.size)⟩

end Go.Proofs.YtiblffipfldgjaaGreatDoor

/-
  A slice of bools, read: its bits, its length, its cells.
-/
namespace Go.Proofs.YtiblffipfldgjaaGreatDoor
open Go.ChangeShapes Go.WideShapes Go.ChangeAt Go.RowKit

theorem plain_addr' {W : World} {a : Addr} {v : Value} (h : W.cell? a = some v) : ∃ b off, a = ⟨b, off, none⟩ := by
  obtain ⟨b, off, spot⟩ := a
  have hspot : spot = none := by simpa using World.cell?_spot h
  subst hspot
  exact ⟨b, off, rfl⟩
theorem bools_read {H : Type} {enc : TypeId × Value → H} {W : World} {a : Option Addr} {len cap : Nat} {d : DataW H} {p : List MemPlace} {base : Nat} {held : Bool} (h : DataW.Trod enc Tryz.prog W base (fun _ => true) held 43 (.slice a len cap) d p) :
    ∃ zs : List Bool, zs.length = len ∧ len ≤ maxLen ∧ len ≤ cap ∧ (0 < len → ∃ b off, a = some ⟨b, off, none⟩ ∧ ∀ i z, zs[i]? = some z → W.cell? ⟨b, off + i, none⟩ = some (.bool z)) := by
  obtain ⟨fuel, hf⟩ := h
  rcases Go.Deep.open_bools Tryz.underlying43 Tryz.underlying4 (by kernel_rfl) hf with ⟨hcs, _⟩ | ⟨x, l, c, B, hcs, _, hl, hm, _, hcell⟩
  · simp [Value.cells] at hcs
    obtain ⟨rfl, rfl, rfl⟩ := hcs
    exact ⟨[], rfl, Nat.zero_le _, Nat.le_refl _, fun h => absurd h (by omega)⟩
  · simp [Value.cells] at hcs
    obtain ⟨rfl, rfl, rfl⟩ := hcs
    refine ⟨(List.range len).map B, by simp, by omega, hl, fun h => ?_⟩
    obtain ⟨b, off, rfl⟩ := plain_addr' (hcell 0 (by omega))
    refine ⟨b, off, rfl, fun i z hz => ?_⟩
    by_cases hi : i < len
    · have := hcell i (by omega)
      rw [add_plain] at this
      have e : z = B i := by simpa [hi] using hz.symm
      rw [e]
      exact this
    · simp [hi] at hz

end Go.Proofs.YtiblffipfldgjaaGreatDoor

/-
  ValueTypes: its walk.
-/
namespace Go.Proofs.YtiblffipfldgjaaGreatDoor
open Go.RowKit
set_option linter.unusedSimpArgs false

theorem trem_nat (v n : Int) (hn : 0 < n) : ∃ u : Nat, v % n = (u : Int) ∧ (u : Int) < n := ⟨(v % n).toNat, by have := Int.emod_nonneg v (show n ≠ 0 by omega); omega, by have := Int.emod_lt_of_pos v hn; have := Int.emod_nonneg v (show n ≠ 0 by omega); omega⟩

theorem sz33 : (⟨#[33]⟩ : ByteArray).size = 1 := rfl
theorem sz91 : (⟨#[91]⟩ : ByteArray).size = 1 := rfl
theorem sz93 : (⟨#[93]⟩ : ByteArray).size = 1 := rfl
theorem cnt_app : ∀ (a b : List UInt8), cnt93 (a ++ b) = cnt93 a + cnt93 b
  | [], b => by show cnt93 b = 0 + cnt93 b; omega
  | x :: a, b => by show (if x == 93 then 1 else 0) + cnt93 (a ++ b) = ((if x == 93 then 1 else 0) + cnt93 a) + cnt93 b; rw [cnt_app a b]; omega
theorem wr_93 : ∀ l : List UInt8, wrOk l = true → wrOk (l ++ [93]) = true
  | [], _ => rfl
  | [b], h => by
    rcases wrOk_head h with rfl | rfl <;> rfl
  | b :: c :: r, h => by
    have h2 := wr_93 (c :: r) (wrOk_tail h)
    unfold wrOk at h
    simp only [Bool.and_eq_true] at h
    show ((b == 33 || b == 93) && !(b == 33 && c == 33) && wrOk (c :: r ++ [93])) = true
    rw [h.1.1, h.1.2, h2]; rfl
theorem wr_33 : ∀ l : List UInt8, wrOk l = true → l.getLast? ≠ some 33 → wrOk (l ++ [33]) = true
  | [], _, _ => rfl
  | [b], h, hl => by
    rcases wrOk_head h with rfl | rfl
    · exact absurd rfl hl
    · rfl
  | b :: c :: r, h, hl => by
    have h2 := wr_33 (c :: r) (wrOk_tail h) (by simpa using hl)
    unfold wrOk at h
    simp only [Bool.and_eq_true] at h
    show ((b == 33 || b == 93) && !(b == 33 && c == 33) && wrOk (c :: r ++ [33])) = true
    rw [h.1.1, h.1.2, h2]; rfl
theorem wr_two : ∀ l : List UInt8, wrOk (l ++ [33, 33]) = false
  | [] => rfl
  | b :: l => by
    have h := wr_two l
    cases hx : wrOk (b :: (l ++ [33, 33])) with
    | false => exact hx
    | true => rw [wrOk_tail hx] at h; cases h
theorem tt_33 (n W : List UInt8) : tyText n (W ++ [33]) = tyText n W ++ [33] := by
  unfold tyText
  rw [cnt_app]
  show List.replicate (cnt93 W + 0) 91 ++ _ = _
  rw [Nat.add_zero]
  simp
theorem tt_93 (n W : List UInt8) : tyText n (W ++ [93]) = 91 :: (tyText n W ++ [93]) := by
  unfold tyText
  rw [cnt_app]
  show List.replicate (cnt93 W + 1) 91 ++ _ = _
  rw [List.replicate_succ]
  simp

/-- What is so at the head of the loop: j rounds are done, of k + 1. -/
def Tyj (k j : Nat) (W S : List UInt8) : Prop := S = tyText [84] W ∧ wrOk W = true ∧ (j ≤ k → cnt93 W = j ∧ W.getLast? ≠ some 33) ∧ (k < j → cnt93 W = k)
theorem last_93 (W : List UInt8) : (W ++ [93]).getLast? ≠ some 33 := by simp
theorem fact_n {k j : Nat} {WS S : ByteArray} (hj : j < k) (h : Tyj k j (vbl WS) (vbl S)) : Tyj k (j + 1) (vbl (WS ++ ⟨#[93]⟩)) (vbl ((⟨#[91]⟩ ++ S) ++ ⟨#[93]⟩)) := by
  obtain ⟨h1, h2, h3, _⟩ := h
  rw [vbl_append, vbl_append, vbl_append]
  refine ⟨?_, wr_93 _ h2, fun _ => ⟨?_, last_93 _⟩, fun h => by omega⟩
  · show ([91] ++ vbl S) ++ [93] = tyText [84] (vbl WS ++ [93])
    rw [tt_93, h1]; rfl
  · show cnt93 (vbl WS ++ [93]) = j + 1
    rw [cnt_app, (h3 (by omega)).1]; rfl
theorem fact_b {k j : Nat} {WS S : ByteArray} (hj : j < k) (h : Tyj k j (vbl WS) (vbl S)) : Tyj k (j + 1) (vbl ((WS ++ ⟨#[33]⟩) ++ ⟨#[93]⟩)) (vbl ((⟨#[91]⟩ ++ (S ++ ⟨#[33]⟩)) ++ ⟨#[93]⟩)) := by
  obtain ⟨h1, h2, h3, _⟩ := h
  rw [vbl_append, vbl_append, vbl_append, vbl_append, vbl_append]
  refine ⟨?_, wr_93 _ (wr_33 _ h2 (h3 (by omega)).2), fun _ => ⟨?_, last_93 _⟩, fun h => by omega⟩
  · show ([91] ++ (vbl S ++ [33])) ++ [93] = tyText [84] ((vbl WS ++ [33]) ++ [93])
    rw [tt_93, tt_33, h1]; rfl
  · show cnt93 ((vbl WS ++ [33]) ++ [93]) = j + 1
    rw [cnt_app, cnt_app, (h3 (by omega)).1]; rfl
theorem fact_nk {k j : Nat} {WS S : ByteArray} (hj : j = k) (h : Tyj k j (vbl WS) (vbl S)) : Tyj k (j + 1) (vbl WS) (vbl S) := by
  obtain ⟨h1, h2, h3, _⟩ := h
  exact ⟨h1, h2, fun h => by omega, fun _ => by rw [(h3 (by omega)).1]; exact hj⟩
theorem fact_bk {k j : Nat} {WS S : ByteArray} (hj : j = k) (h : Tyj k j (vbl WS) (vbl S)) : Tyj k (j + 1) (vbl (WS ++ ⟨#[33]⟩)) (vbl (S ++ ⟨#[33]⟩)) := by
  obtain ⟨h1, h2, h3, _⟩ := h
  rw [vbl_append, vbl_append]
  refine ⟨?_, wr_33 _ h2 (h3 (by omega)).2, fun h => by omega, fun _ => ?_⟩
  · show vbl S ++ [33] = tyText [84] (vbl WS ++ [33])
    rw [tt_33, h1]
  · show cnt93 (vbl WS ++ [33]) = k
    rw [cnt_app, (h3 (by omega)).1, hj]; rfl

/-- The type under way lies in block w.heap.size. -/
structure Bw (w W : World) (WS : ByteArray) : Prop where
  bel : Below w.heap.size w W
  lt : w.heap.size < W.heap.size
  c0 : W.cell? ⟨w.heap.size, 0, none⟩ = some (.string ⟨#[84]⟩)
  c1 : W.cell? ⟨w.heap.size, 1, none⟩ = some (.string WS)
  fz : ∀ j, W.frozen? ⟨w.heap.size, j, none⟩ = false
theorem Bw.set {w W : World} {WS : ByteArray} (h : Bw w W WS) (X : ByteArray) : Bw w (W.setCell ⟨w.heap.size, 1, none⟩ (.string X)) X :=
  ⟨h.bel.setCell (p := ⟨w.heap.size, 1, none⟩) (Nat.le_refl _) _, by have := h.lt; simpa [World.setCell] using this, (World.cell?_setCell_other _ _ _ _ (by simp)).trans h.c0, World.cell?_setCell_same _ _ _ h.c1, fun j => (World.frozen?_setCell _ _ _ _).trans (h.fz j)⟩
theorem Bw.keep {w W W' : World} {WS : ByteArray} (h : Bw w W WS) (hb : Below W.heap.size W W') : Bw w W' WS := by
  have hk := hb.block w.heap.size h.lt
  have c : ∀ j, W'.cell? ⟨w.heap.size, j, none⟩ = W.cell? ⟨w.heap.size, j, none⟩ := fun j => World.cell?_of_block (a := ⟨w.heap.size, j, none⟩) hk
  exact ⟨h.bel.trans (hb.mono h.bel.size), Nat.lt_of_lt_of_le h.lt hb.size, (c 0).trans h.c0, (c 1).trans h.c1, fun j => (World.frozen?_of_block (a := ⟨w.heap.size, j, none⟩) hk).trans (h.fz j)⟩

/-- A type's text, lexed. -/
theorem ty_lex {X : ByteArray} {n ws tl : List UInt8} {tk : List Sk} (hn : nameB n = true) (hw : wrOk ws = true) (hX : vbl X = tyText n ws ++ tl) (hl : (tyText n ws ++ tl).length ≤ 8000) (htl : sepV tl) (hlex : ∀ (a : Nat) (acc : List Tk), ∃ ts, ts.map strip = tk ∧ lxG a tl acc = (acc ++ ts, 0, 0)) :
    ∃ ts : List Tk, ts.map strip = tyToks n ws ++ tk ∧ lexP X.data.toList = (ts, 0, 0) := by
  obtain ⟨ts, e, hg⟩ := ty_lexes hn hw tl htl 0 []
  obtain ⟨t2, e2, hg2⟩ := hlex (0 + (tyText n ws).length) ([] ++ ts)
  refine ⟨ts ++ t2, by rw [List.map_append, e, e2], ?_⟩
  show lexP (vbl X) = _
  rw [hX, lexP_G _ hl, hg, hg2, List.nil_append]

theorem tk_small {n ws : List UInt8} (hn : n.length ≤ 1000000) : ∀ t ∈ tyToks n ws, t.2.length ≤ 1000000 := by
  intro t ht
  unfold tyToks at ht
  rcases List.mem_append.1 ht with h | h
  · rw [(List.mem_replicate.1 h).2]; decide
  · rcases List.mem_cons.1 h with rfl | h
    · exact hn
    · obtain ⟨b, _, rfl⟩ := List.mem_map.1 h
      show 1 ≤ _; omega
theorem tk_len (n ws : List UInt8) : (tyToks n ws).length = cnt93 ws + 1 + ws.length := by
  unfold tyToks wk
  rw [List.length_append, List.length_replicate, List.length_cons, List.length_map]; omega

theorem type_some {a : Option Addr} {cap : Nat} {ts : List Tk} {nm ws : ByteArray} {tl : List Sk} (w : World) (ht : TkAt w a ts) (hc : ts.length ≤ cap) (hs : ts.length ≤ 9000) (hz : ∀ t ∈ ts, t.s.length ≤ 1000000) (hst : ts.map strip = tyToks (vbl nm) (vbl ws) ++ tl) (hw : wrOk (vbl ws) = true) (h12 : cnt93 (vbl ws) ≤ 12) (htl : sg (hdK tl) 33 = false) :
    Calls Tryz.prog 14 #[.slice a ts.length cap, .int .i64 0] w fun e w' => Below w.heap.size w w' ∧ e = .returned (.tuple #[.agg #[.string nm, .string ws], .int .i64 ((ts.length - tl.length : Nat) : Int), .bool true]) := by
  refine (valType_any w ht hc hs hz).mono fun e w' h => ?_
  rw [hst, type_reads hw h12 htl] at h
  exact h
theorem type_none {a : Option Addr} {cap : Nat} {ts : List Tk} {n ws : List UInt8} (w : World) (ht : TkAt w a ts) (hc : ts.length ≤ cap) (hs : ts.length ≤ 9000) (hz : ∀ t ∈ ts, t.s.length ≤ 1000000) (hst : ts.map strip = tyToks n ws) (h12 : 12 < cnt93 ws) :
    Calls Tryz.prog 14 #[.slice a ts.length cap, .int .i64 0] w fun e w' => Below w.heap.size w w' ∧ e = .returned (.tuple #[.agg #[.string ⟨#[]⟩, .string ⟨#[]⟩], .int .i64 0, .bool false]) := by
  refine (valType_any w ht hc hs hz).mono fun e w' h => ?_
  have hn : typeP (ts.map strip) = none := by rw [hst]; exact type_more h12
  rw [hn] at h
  exact h

set_option maxHeartbeats 8000000 in
set_option maxRecDepth 100000 in
theorem valueTypes_walk (n : Int) (a : Option Addr) (len cap : Nat) (zs : List Bool) (w : World) (hz : zs.length = len) (hl : len ≤ maxLen) (hr : 0 < len → ∃ b off, a = some ⟨b, off, none⟩ ∧ ∀ i z, zs[i]? = some z → w.cell? ⟨b, off + i, none⟩ = some (.bool z)) (hm : ∃ m, w.cell? ⟨0, 0, none⟩ = some (.int .i64 m)) :
    Calls Tryz.prog 5 #[.int .i64 n, .slice a len cap] w (TrueBelow w) := by
  obtain ⟨u, eu, lu⟩ := trem_nat n 16 (by omega)
  have HPn : ∀ W, Calls Tryz.prog 15 #[.int .i64 n, .int .i64 16] W fun e w' => e = .returned (.int .i64 (u : Int)) ∧ W = w' := fun W => by have := place_any n 16 W (by omega) (by omega); rw [eu] at this; exact this
  have hu : u < 16 := by omega
  have HZ := Lib.hid hz
  have HM := Lib.hid hm
  unfold maxLen at hl
  have hnew : (w.alloc (.cells #[.string ⟨#[84]⟩, .string ⟨#[]⟩] 27)).heap[w.heap.size]? = some (.cells #[.string ⟨#[84]⟩, .string ⟨#[]⟩] 27 (0, 0)) := heap_alloc_new _ _
  have HW0 := Lib.hid (show Bw w (w.alloc (.cells #[.string ⟨#[84]⟩, .string ⟨#[]⟩] 27)) ⟨#[]⟩ from ⟨(Below.refl _ w).alloc (Nat.le_refl _) _, by simp, Lib.cell_of_heap hnew 0, Lib.cell_of_heap hnew 1, fun j => by go_simp⟩)
  clear eu lu hz hnew hm
  go_enter Tryz.func5, Tryz.ntmps5
  go_wp2_with fail
  with_reducible refine (HPn _).mono ?_
  rintro e w' ⟨rfl, rfl⟩
  clear HPn
  go_wp2_with fail
  go_loopw [7, 8] (fun s i wr => ∃ (j : Nat) (WS S : ByteArray), j ≤ u + 1 ∧ s = .string S ∧ i = .int .i64 j ∧ Bw w wr WS ∧ Hid (Tyj u j (vbl WS) (vbl S)) ∧ WS.size ≤ 2 * j ∧ S.size ≤ 3 * j + 1) (fun _ i _ => u + 1 - (intOf i).toNat)
  case atStart => exact ⟨0, ⟨#[]⟩, ⟨#[84]⟩, by omega, rfl, rfl, HW0.out, Lib.hid ⟨rfl, rfl, fun _ => ⟨rfl, by decide⟩, fun h => by omega⟩, by decide, by decide⟩
  case round =>
    obtain ⟨j, WS, S, hj, rfl, rfl, hw, HI, zW, zS⟩ := hrel
    have HW := Lib.hid hw
    have hwl := hw.lt
    by_cases hlt : j ≤ u
    · have hd : decide ((j : Int) ≤ (u : Int)) = true := decide_eq_true (by omega)
      obtain ⟨hbel, _, c0, c1, fz⟩ := hw
      by_cases hge : len ≤ j
      · have hdl : decide ((j : Int) < (len : Int)) = false := decide_eq_false (by omega)
        clear hbel
        by_cases hk : j < u
        · have hdk : decide ((j : Int) < (u : Int)) = true := decide_eq_true (by omega)
          have HJ := Lib.hid hk
          have zS1 : (S ++ ⟨#[33]⟩).size ≤ 70 := by rw [ByteArray.size_append]; show _ + 1 ≤ _; omega
          have zS2 : (⟨#[91]⟩ ++ S : ByteArray).size ≤ 70 := by rw [ByteArray.size_append]; show 1 + _ ≤ _; omega
          have zS3 : (⟨#[91]⟩ ++ (S ++ ⟨#[33]⟩) : ByteArray).size ≤ 71 := by rw [ByteArray.size_append]; show 1 + _ ≤ _; omega
          have zW1 : (WS ++ ⟨#[33]⟩).size ≤ 70 := by rw [ByteArray.size_append]; show _ + 1 ≤ _; omega
          go_wp2_with fail
          go_roundw
          case rel =>
            exact ⟨j + 1, WS ++ ⟨#[93]⟩, (⟨#[91]⟩ ++ S) ++ ⟨#[93]⟩, by omega, rfl, by go_num, (HW.out.set _), Lib.hid (fact_n HJ.out HI.out), by refine ⟨?_, ?_⟩ <;> ((try simp only [ByteArray.size_append, sz33, sz91, sz93]); omega)⟩
          case measure => simp [intOf]; omega
        · have hdk : decide ((j : Int) < (u : Int)) = false := decide_eq_false (by omega)
          have HJ := Lib.hid (show j = u by omega)
          have zS1 : (S ++ ⟨#[33]⟩).size ≤ 70 := by rw [ByteArray.size_append]; show _ + 1 ≤ _; omega
          have zS2 : (⟨#[91]⟩ ++ S : ByteArray).size ≤ 70 := by rw [ByteArray.size_append]; show 1 + _ ≤ _; omega
          have zS3 : (⟨#[91]⟩ ++ (S ++ ⟨#[33]⟩) : ByteArray).size ≤ 71 := by rw [ByteArray.size_append]; show 1 + _ ≤ _; omega
          have zW1 : (WS ++ ⟨#[33]⟩).size ≤ 70 := by rw [ByteArray.size_append]; show _ + 1 ≤ _; omega
          go_wp2_with fail
          go_roundw
          case rel =>
            exact ⟨j + 1, WS, S, by omega, rfl, by go_num, HW.out, Lib.hid (fact_nk HJ.out HI.out), by refine ⟨?_, ?_⟩ <;> ((try simp only [ByteArray.size_append, sz33, sz91, sz93]); omega)⟩
          case measure => simp [intOf]; omega
      · have hdl : decide ((j : Int) < (len : Int)) = true := decide_eq_true (by omega)
        have hzl := HZ.out
        obtain ⟨b, off, rfl, hcell⟩ := hr (by omega)
        have hx : zs[j]? = some (zs.getD j false) := by rw [List.getD_eq_getElem?_getD, List.getElem?_eq_getElem (by omega)]; rfl
        have hcx0 := hcell j _ hx
        have hcx := (hbel.cell (p := ⟨b, off + j, none⟩) (cell_lt hcx0)).trans hcx0
        have hbne := cell_lt hcx0
        clear hcell hx hr hbel hcx0
        cases hbit : zs.getD j false with
        | true =>
          rw [hbit] at hcx
          clear hbit hzl
          by_cases hk : j < u
          · have hdk : decide ((j : Int) < (u : Int)) = true := decide_eq_true (by omega)
            have HJ := Lib.hid hk
            have zS1 : (S ++ ⟨#[33]⟩).size ≤ 70 := by rw [ByteArray.size_append]; show _ + 1 ≤ _; omega
            have zS2 : (⟨#[91]⟩ ++ S : ByteArray).size ≤ 70 := by rw [ByteArray.size_append]; show 1 + _ ≤ _; omega
            have zS3 : (⟨#[91]⟩ ++ (S ++ ⟨#[33]⟩) : ByteArray).size ≤ 71 := by rw [ByteArray.size_append]; show 1 + _ ≤ _; omega
            have zW1 : (WS ++ ⟨#[33]⟩).size ≤ 70 := by rw [ByteArray.size_append]; show _ + 1 ≤ _; omega
            go_wp2_with fail
            go_roundw
            case rel =>
              exact ⟨j + 1, (WS ++ ⟨#[33]⟩) ++ ⟨#[93]⟩, (⟨#[91]⟩ ++ (S ++ ⟨#[33]⟩)) ++ ⟨#[93]⟩, by omega, rfl, by go_num, ((HW.out.set _).set _), Lib.hid (fact_b HJ.out HI.out), by refine ⟨?_, ?_⟩ <;> ((try simp only [ByteArray.size_append, sz33, sz91, sz93]); omega)⟩
            case measure => simp [intOf]; omega
          · have hdk : decide ((j : Int) < (u : Int)) = false := decide_eq_false (by omega)
            have HJ := Lib.hid (show j = u by omega)
            have zS1 : (S ++ ⟨#[33]⟩).size ≤ 70 := by rw [ByteArray.size_append]; show _ + 1 ≤ _; omega
            have zS2 : (⟨#[91]⟩ ++ S : ByteArray).size ≤ 70 := by rw [ByteArray.size_append]; show 1 + _ ≤ _; omega
            have zS3 : (⟨#[91]⟩ ++ (S ++ ⟨#[33]⟩) : ByteArray).size ≤ 71 := by rw [ByteArray.size_append]; show 1 + _ ≤ _; omega
            have zW1 : (WS ++ ⟨#[33]⟩).size ≤ 70 := by rw [ByteArray.size_append]; show _ + 1 ≤ _; omega
            go_wp2_with fail
            go_roundw
            case rel =>
              exact ⟨j + 1, WS ++ ⟨#[33]⟩, S ++ ⟨#[33]⟩, by omega, rfl, by go_num, (HW.out.set _), Lib.hid (fact_bk HJ.out HI.out), by refine ⟨?_, ?_⟩ <;> ((try simp only [ByteArray.size_append, sz33, sz91, sz93]); omega)⟩
            case measure => simp [intOf]; omega
        | false =>
          rw [hbit] at hcx
          clear hbit hzl
          by_cases hk : j < u
          · have hdk : decide ((j : Int) < (u : Int)) = true := decide_eq_true (by omega)
            have HJ := Lib.hid hk
            have zS1 : (S ++ ⟨#[33]⟩).size ≤ 70 := by rw [ByteArray.size_append]; show _ + 1 ≤ _; omega
            have zS2 : (⟨#[91]⟩ ++ S : ByteArray).size ≤ 70 := by rw [ByteArray.size_append]; show 1 + _ ≤ _; omega
            have zS3 : (⟨#[91]⟩ ++ (S ++ ⟨#[33]⟩) : ByteArray).size ≤ 71 := by rw [ByteArray.size_append]; show 1 + _ ≤ _; omega
            have zW1 : (WS ++ ⟨#[33]⟩).size ≤ 70 := by rw [ByteArray.size_append]; show _ + 1 ≤ _; omega
            go_wp2_with fail
            go_roundw
            case rel =>
              exact ⟨j + 1, WS ++ ⟨#[93]⟩, (⟨#[91]⟩ ++ S) ++ ⟨#[93]⟩, by omega, rfl, by go_num, (HW.out.set _), Lib.hid (fact_n HJ.out HI.out), by refine ⟨?_, ?_⟩ <;> ((try simp only [ByteArray.size_append, sz33, sz91, sz93]); omega)⟩
            case measure => simp [intOf]; omega
          · have hdk : decide ((j : Int) < (u : Int)) = false := decide_eq_false (by omega)
            have HJ := Lib.hid (show j = u by omega)
            have zS1 : (S ++ ⟨#[33]⟩).size ≤ 70 := by rw [ByteArray.size_append]; show _ + 1 ≤ _; omega
            have zS2 : (⟨#[91]⟩ ++ S : ByteArray).size ≤ 70 := by rw [ByteArray.size_append]; show 1 + _ ≤ _; omega
            have zS3 : (⟨#[91]⟩ ++ (S ++ ⟨#[33]⟩) : ByteArray).size ≤ 71 := by rw [ByteArray.size_append]; show 1 + _ ≤ _; omega
            have zW1 : (WS ++ ⟨#[33]⟩).size ≤ 70 := by rw [ByteArray.size_append]; show _ + 1 ≤ _; omega
            go_wp2_with fail
            go_roundw
            case rel =>
              exact ⟨j + 1, WS, S, by omega, rfl, by go_num, HW.out, Lib.hid (fact_nk HJ.out HI.out), by refine ⟨?_, ?_⟩ <;> ((try simp only [ByteArray.size_append, sz33, sz91, sz93]); omega)⟩
            case measure => simp [intOf]; omega
    · have hd : decide ((j : Int) ≤ (u : Int)) = false := decide_eq_false (by omega)
      obtain rfl : j = u + 1 := by omega
      obtain ⟨hS, hwr, _, hct⟩ := HI.out
      have hcnt := hct (by omega)
      have hTl : (tyText [84] (vbl WS)).length ≤ 100 := by rw [← hS]; show S.size ≤ 100; omega
      obtain ⟨ts, hst, hlx⟩ := ty_lex (X := S) (n := [84]) (ws := vbl WS) (tl := []) (tk := []) (by decide) hwr (by rw [hS, List.append_nil]) (by rw [List.append_nil]; omega) (fun c hc => by simp at hc) (fun a acc => ⟨[], rfl, by rw [lxG_nil, List.append_nil]⟩)
      have htl : ts.length = cnt93 (vbl WS) + 1 + (vbl WS).length := by rw [← List.length_map (f := strip), hst, List.append_nil, tk_len]
      have hvl : (vbl WS).length = WS.size := rfl
      have htz : ∀ t ∈ ts, t.s.length ≤ 1000000 := fun t ht => tk_small (n := [84]) (ws := vbl WS) (by decide) (strip t) (by
        have : strip t ∈ ts.map strip := List.mem_map.2 ⟨t, ht, rfl⟩
        rwa [hst, List.append_nil] at this)
      have HA := fun W => lex_toks hlx (by omega) W (by omega)
      have HST := Lib.hid hst
      have HTZ := Lib.hid htz
      have hS2 : (⟨(tyText [84] (vbl WS)).toArray⟩ : ByteArray) = S := (of_vbl hS).symm
      have HS2 := Lib.hid hS2
      have HWR := Lib.hid hwr
      have HCN := Lib.hid hcnt
      have htsb : ts.length ≤ 200 := by omega
      obtain ⟨hbel, _, c0, c1, fz⟩ := hw
      clear hS hwr hct hlx hst htz hS2 hcnt hTl htl hbel hr
      go_wp2_with fail
      refine (HA _).mono ?_
      rintro e w1 ⟨b1, g, cp1, rfl, hcap, hg1, hg2, hc1⟩
      have hw1 := HW.out.keep b1
      have HW1 := Lib.hid hw1
      by_cases h12 : u ≤ 12
      · have e12 : decide ((u : Int) ≤ 12) = true := decide_eq_true (by omega)
        have HV := type_some (a := some ⟨g, 0, none⟩) (nm := ⟨#[84]⟩) (ws := WS) (tl := []) w1 (fun _ => ⟨g, rfl, hc1⟩) hcap (by omega) HTZ.out HST.out HWR.out (by rw [HCN.out]; exact h12) (by rfl)
        have hok : tyOk (vbl ⟨#[84]⟩) (vbl WS) = true := by
          unfold tyOk
          rw [HWR.out, HCN.out, decide_eq_true h12]; rfl
        have HCK := fun W (h : Bw w W WS) => checkType_any ⟨#[84]⟩ WS W (by decide) (by omega) (at_maxlen HM.out h.bel)
        rw [hok] at HCK
        have HTX := fun W (h : Bw w W WS) => typeText_any ⟨#[84]⟩ WS W (by decide) (by omega) (at_maxlen HM.out h.bel)
        have htb : tyTextB (vbl ⟨#[84]⟩) (vbl WS) = tyText [84] (vbl WS) := by unfold tyTextB; rw [hok]; rfl
        unfold StrBelow at HTX
        rw [htb, HS2.out] at HTX
        have hz2 : (WS ++ ⟨#[33, 33]⟩).size ≤ 60 := by rw [ByteArray.size_append]; show _ + 2 ≤ _; omega
        have hno : tyOk (vbl ⟨#[84]⟩) (vbl (WS ++ ⟨#[33, 33]⟩)) = false := by
          rw [vbl_append]
          unfold tyOk
          show (nameB [84] && (wrOk (vbl WS ++ [33, 33]) && _)) = false
          rw [wr_two, Bool.false_and, Bool.and_false]
        have HC2 := fun W (h : Bw w W WS) => checkType_any ⟨#[84]⟩ (WS ++ ⟨#[33, 33]⟩) W (by decide) (by omega) (at_maxlen HM.out h.bel)
        rw [hno] at HC2
        have HAW := vAwake
        clear hc1 HA b1 hok htb hno hw1 c0 c1 fz
        go_wp2_with fail
        refine HV.mono ?_
        rintro e w2 ⟨b2, rfl⟩
        have hw2 := HW1.out.keep b2
        have hw3 := hw2.keep ((Below.refl _ w2).alloc (Nat.le_refl _) (.cells #[.string ⟨#[84]⟩, .string WS] 27))
        have hlt2 := hw2.lt
        have HW3 := Lib.hid hw3
        obtain ⟨_, _, c0, c1, fz⟩ := hw2
        have hub : ∀ W, Below (w2.alloc (.cells #[.string ⟨#[84]⟩, .string WS] 27)).heap.size (w2.alloc (.cells #[.string ⟨#[84]⟩, .string WS] 27)) W → W.cell? ⟨w2.heap.size, 0, none⟩ = some (.string ⟨#[84]⟩) ∧ W.cell? ⟨w2.heap.size, 1, none⟩ = some (.string WS) := fun W hW => by
          have hk : W.heap[w2.heap.size]? = some (.cells #[.string ⟨#[84]⟩, .string WS] 27 (0, 0)) := (hW.block _ (by simp)).trans (heap_alloc_new _ _)
          exact ⟨Lib.cell_of_heap hk 0, Lib.cell_of_heap hk 1⟩
        have HUB := Lib.hid hub
        have k3 := HCK _ hw3
        clear hub HV b2 hw3
        go_wp2_with fail
        refine k3.mono ?_
        rintro e w4 ⟨rfl, b4⟩
        obtain ⟨d0, d1⟩ := HUB.out w4 b4
        have hw4 := HW3.out.keep b4
        have HW4 := Lib.hid hw4
        have B4 := Lib.hid b4
        have k4 := HTX _ hw4
        obtain ⟨_, _, f0, f1, fz4⟩ := hw4
        clear k3 b4
        go_wp2_with fail
        refine k4.mono ?_
        rintro e w5 ⟨rfl, b5⟩
        have hw5 := HW4.out.keep b5
        have HW5 := Lib.hid hw5
        have k5 := HC2 _ hw5
        obtain ⟨_, _, g0, g1, fz5⟩ := hw5
        clear k4 b5
        go_wp2_with fail
        refine k5.mono ?_
        rintro e w6 ⟨rfl, b6⟩
        have hw6 := HW5.out.keep b6
        have HB6 := Lib.hid hw6.bel
        clear k5 b6 hw6
        go_wp2_with fail
        refine (HAW _).mono ?_
        rintro e w7 ⟨rfl, b7⟩
        go_wp2_with fail
        go_ret
        exact ⟨rfl, HB6.out.trans (b7.mono HB6.out.size)⟩
      · have e12 : decide ((u : Int) ≤ 12) = false := decide_eq_false (by omega)
        have HV := type_none (a := some ⟨g, 0, none⟩) (n := [84]) (ws := vbl WS) w1 (fun _ => ⟨g, rfl, hc1⟩) hcap (by omega) HTZ.out (by have := HST.out; rwa [List.append_nil] at this) (by rw [HCN.out]; omega)
        have hok : tyOk (vbl ⟨#[84]⟩) (vbl WS) = false := by
          unfold tyOk
          rw [HCN.out, decide_eq_false h12, Bool.and_false, Bool.and_false]
        have HCK := fun W (h : Bw w W WS) => checkType_any ⟨#[84]⟩ WS W (by decide) (by omega) (at_maxlen HM.out h.bel)
        rw [hok] at HCK
        have HTX := fun W (h : Bw w W WS) => typeText_any ⟨#[84]⟩ WS W (by decide) (by omega) (at_maxlen HM.out h.bel)
        have htb : tyTextB (vbl ⟨#[84]⟩) (vbl WS) = [] := by unfold tyTextB; rw [hok]; rfl
        unfold StrBelow at HTX
        rw [htb] at HTX
        have HAW := vAwake
        clear hc1 HA b1 hok htb hw1 c0 c1 fz
        go_wp2_with fail
        refine HV.mono ?_
        rintro e w2 ⟨b2, rfl⟩
        have hw2 := HW1.out.keep b2
        have hw3 := hw2.keep ((Below.refl _ w2).alloc (Nat.le_refl _) (.cells #[.string ⟨#[]⟩, .string ⟨#[]⟩] 27))
        have hlt2 := hw2.lt
        have HW3 := Lib.hid hw3
        obtain ⟨_, _, c0, c1, fz⟩ := hw2
        have hub : ∀ W, Below (w2.alloc (.cells #[.string ⟨#[]⟩, .string ⟨#[]⟩] 27)).heap.size (w2.alloc (.cells #[.string ⟨#[]⟩, .string ⟨#[]⟩] 27)) W → W.cell? ⟨w2.heap.size, 0, none⟩ = some (.string ⟨#[]⟩) := fun W hW => by
          have hk : W.heap[w2.heap.size]? = some (.cells #[.string ⟨#[]⟩, .string ⟨#[]⟩] 27 (0, 0)) := (hW.block _ (by simp)).trans (heap_alloc_new _ _)
          exact Lib.cell_of_heap hk 0
        have HUB := Lib.hid hub
        have k3 := HCK _ hw3
        clear hub HV b2 hw3
        go_wp2_with fail
        refine k3.mono ?_
        rintro e w4 ⟨rfl, b4⟩
        have d0 := HUB.out w4 b4
        have hw4 := HW3.out.keep b4
        have HW4 := Lib.hid hw4
        have k4 := HTX _ hw4
        obtain ⟨_, _, f0, f1, fz4⟩ := hw4
        clear k3 b4
        go_wp2_with fail
        refine k4.mono ?_
        rintro e w5 ⟨rfl, b5⟩
        have hw5 := HW4.out.keep b5
        have HB5 := Lib.hid hw5.bel
        clear k4 b5 hw5
        go_wp2_with fail
        refine (HAW _).mono ?_
        rintro e w7 ⟨rfl, b7⟩
        go_wp2_with fail
        go_ret
        exact ⟨rfl, HB5.out.trans (b7.mono HB5.out.size)⟩

end Go.Proofs.YtiblffipfldgjaaGreatDoor

/-
  For every input the law ValueTypes returns true and leaves its arguments as they were: the row, and its card over the variables that it lists. No condition.
-/
namespace Go.Proofs.YtiblffipfldgjaaGreatDoor
open Go.ChangeShapes Go.WideShapes Go.ChangeAt Go.RowKit
set_option linter.unusedVariables false

set_option maxRecDepth 100000 in
theorem valueTypes_contract (H : Type) (enc : TypeId × Value → H) (W : World) (base : Nat) (args : Array Value) (ds gs : List (DataW H)) (before : List MemPlace)
    (hval : ∀ (j : Nat) t v, Tryz.f5.params[j]? = some t → args[j]? = some v → Value.okWide Tryz.prog W .any base t v)
    (hW : DataW.Whole enc Tryz.prog Tryz.f5.params.toList Rows.valueTypesSpec.vars false W args.toList ds gs before) (hsh : W.ShapedOpen Tryz.prog) :
    Calls Tryz.prog 5 args W fun e W' => ∃ v, e = .returned v ∧ Rows.valueTypesSpec.post enc Tryz.prog Tryz.f5 false true false false W args v W' := by
  have hW' := hW
  obtain ⟨p, q, hA0, hV, rfl, hfz, hnd⟩ := hW
  have hA : DataW.TrodAll enc Tryz.prog W 0 (fun _ => true) true Tryz.f5.params.toList args.toList ds p := hA0
  rw [Tryz.params5] at hA hval
  obtain ⟨v0, vs0, d0, ds0, p0, q0, hargs, rfl, rfl, h0, r0⟩ := trodAll_cons hA
  obtain ⟨v1, vs1, d1, ds1, p1, q1, rfl, rfl, rfl, h1, r1⟩ := trodAll_cons r0
  obtain ⟨rfl, rfl, rfl⟩ := trodAll_nil r1
  obtain rfl : args = #[v0, v1] := by cases args; simp_all
  obtain ⟨rfl, rfl⟩ := trodVars_none hV
  obtain ⟨a0, rfl, rfl, rfl, w0⟩ := open_int Tryz.underlying3 (hval 0 3 v0 rfl rfl) h0
  obtain ⟨a1, len1, cap1, rfl⟩ := okWide_slice Tryz.underlying43 (hval 1 43 v1 rfl rfl)
  have k1 := h1
  have lt1 : ∀ x ∈ p1, x.block < W.heap.size := by obtain ⟨m, hm⟩ := k1; exact DataW.trod_lt m _ _ _ hm
  obtain ⟨z1, hz1, hl1, _, hr1⟩ := bools_read h1
  clear hA0
  refine (valueTypes_walk a0 a1 len1 cap1 z1 W hz1 hl1 hr1 (Tryz.laysM144.s1_3 W hsh)).mono fun e W' ⟨he, bel⟩ => ?_
  subst he
  exact ⟨_, rfl, _, _, _, [], _, [], hW', trodAll_mk1 (shut_bool Tryz.underlying4 _), (trodAll_cons_mk (shut_int Tryz.underlying3 w0) (trodAll_cons_mk (Below.trod laidOut (by kernel_rfl) (of_decide_eq_true (by kernel_rfl)) k1 bel lt1) trodAll_mk0)), rfl, bel.frame _, fun h => by cases h⟩

theorem valueTypes_met (os : Os) : laidMet Tryz.prog Rows.valueTypesRow.laid ((laidWorld os).forCall (fun _ _ => 0) ⟨#[], #[.int .i64 0, .slice none 0 0], []⟩).memory := laidMet_of_run' 8 (by kernel_rfl) (by kernel_rfl)
theorem valueTypes_reads (os : Os) {H : Type} (enc : TypeId × Value → H) : ∃ places, DataW.whole enc Tryz.prog ((laidWorld os).forCall (fun _ _ => 0) ⟨#[], #[.int .i64 0, .slice none 0 0], []⟩).memory Tryz.f5.params.toList Rows.valueTypesSpec.vars false (#[.int .i64 0, .slice none 0 0] : Array Value).toList 8 = some ([.lit (.int .i64 0), .nil], [], places) := ⟨[], by kernel_rfl⟩
set_option maxRecDepth 100000 in
theorem valueTypes_lifted (os : Os) (started : os.Started) (H : Type) (enc : TypeId × Value → H) (F : Stop.Interp) :
    ReturnsInHanded {} Tryz.checked os 5 .any ((OpenSpec.ofChange Rows.valueTypesSpec).preRow enc Tryz.prog Tryz.f5 Rows.valueTypesRow.domain false Rows.valueTypesRow.laid) (((OpenSpec.ofChange Rows.valueTypesSpec).at F).post enc Tryz.prog Tryz.f5 false true false false) := by
  obtain ⟨places, hx⟩ := valueTypes_reads os enc
  refine returnsInHanded_of_row (C := Tryz.checked) (s := OpenSpec.ofChange Rows.valueTypesSpec) laidOwn started (by kernel_rfl) Tryz.func5
    (witness_row_at (enc := enc) (C := Tryz.checked) false (laidWorld os) #[.int .i64 0, .slice none 0 0] rfl (by kernel_rfl) (by kernel_rfl) (by kernel_rfl)
      (OpenSpec.preRow_of_cond 8 hx (by kernel_rfl) (fun k hk => by cases hk) (by kernel_rfl) (valueTypes_met os))) ?_
  intro W base args ds gs before hval hW _ _ _ hL hsh _
  exact valueTypes_contract H enc W base args ds gs before hval hW hsh

theorem valueTypes_said : Rows.ValueTypesSaid :=
  OpenClaim.holds_of_cond 5 Tryz.f5 rfl rfl rfl rfl rfl rfl rfl ⟨rfl, rfl, rfl, rfl, rfl⟩ rfl rfl rfl rfl rfl (by kernel_rfl) Tryz.func5 (by kernel_rfl)
    (of_decide_eq_true (by kernel_rfl)) (by unfold Func.isWrapper; first | (rw [if_pos (by decide +kernel)]; kernel_rfl) | (rw [if_neg (by decide +kernel)]; exact ⟨rfl, rfl⟩))
    (fun os started H enc _ F => by rw [OpenClaim.pre_eq_preRow]; exact valueTypes_lifted os started H enc F)

theorem valueTypes_plain (f : FuncId) (fn : Func) (hf : Tryz.pinned.checked.prog.funcNamed "refectory/refectorylaw05.ValueTypes" = some f) (hfn : Tryz.pinned.checked.prog.funcs[f]? = some fn) :
    true = Tryz.pinned.checked.prog.looks [] ∧ ∀ (j : Nat) t, fn.params[j]? = some t → Tryz.pinned.checked.prog.wantsStandIn t = false := by
  obtain rfl : f = 5 := Option.some.inj ((show Tryz.prog.funcNamed "refectory/refectorylaw05.ValueTypes" = some 5 by kernel_rfl).symm.trans hf) |>.symm
  obtain rfl : fn = Tryz.f5 := (Option.some.inj (Tryz.func5.symm.trans hfn)).symm
  refine ⟨by kernel_rfl, fun j t ht => ?_⟩
  rw [Tryz.params5] at ht
  have hm : t ∈ [3, 43] := by have := Array.mem_of_getElem? ht; simp at this ⊢; omega
  have hall : ([3, 43].all fun u => !Tryz.prog.wantsStandIn u) = true := by kernel_rfl
  exact (show Tryz.prog.wantsStandIn t = false by simpa using List.all_eq_true.1 hall t hm)

theorem valueTypes_card : Rows.ValueTypesCardSaid :=
  Claim7.holds_tied_plain_at .later [] _ _ _ _ valueTypes_said (fun _ h => by cases h) (by kernel_rfl) (fun _ h => by cases h) valueTypes_row_tie rfl ⟨rfl, rfl⟩ (by kernel_rfl) rfl valueTypes_plain (by kernel_rfl)

#print axioms valueTypes_card
end Go.Proofs.YtiblffipfldgjaaGreatDoor
