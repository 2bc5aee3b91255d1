/-
  The document's example of layer 5.
-/
import Derived.Test.YtiblffipfldgjaaGreatDoorMV7
import Derived.Test.YtiblffipfldgjaaGreatDoorMV12
import Derived.Test.YtiblffipfldgjaaGreatDoorVp
import Derived.Test.YtiblffipfldgjaaGreatDoorRows
import Derived.Test.YtiblffipfldgjaaGreatDoorPlace
import Derived.Deep.Grids
import Derived.ProofKit
import Derived.OpenShut
namespace Go.Proofs.YtiblffipfldgjaaGreatDoor
open Go.RowKit

def awTs : List Tk := [⟨5, [91], 0⟩, ⟨2, [49], 1⟩, ⟨5, [36], 3⟩, ⟨1, [97], 4⟩, ⟨5, [93], 5⟩]
def awV : JV := .mk 7 ⟨#[]⟩ [] [.mk 3 ⟨#[49]⟩ [] [], .mk 9 ⟨#[97]⟩ [] []]
theorem aw_lex : lexP (⟨#[91, 49, 32, 36, 97, 93]⟩ : ByteArray).data.toList = (awTs, 0, 0) := by kernel_rfl
theorem aw_pv : pvT 12 (awTs.map strip) = (awV, [], 0) := by kernel_rfl
theorem aw_txt : vtextB awV = [91, 49, 32, 36, 97, 93] := by kernel_rfl
theorem aw_len : (vtxt 12 awV).length = 6 := by kernel_rfl

/-- What a value that was read looks like to those that read on. -/
theorem rdD_rd {W : World} {D : Nat → Prop} {n : Nat} {x : JV} {v : Value} (hD : ∀ b, D b → b < W.heap.size) (h : RdD W D n x v) (W' : World) (hb : Below W.heap.size W W') : Rd W' W.heap.size n x v := (h.toB hD).below hb

set_option maxHeartbeats 2000000 in
set_option maxRecDepth 100000 in
theorem vAwake (w : World) : Calls Tryz.prog 7 #[] w (TrueBelow w) := by
  have hA := fun W => lex_toks aw_lex (by decide) W (show 6 ≤ 1000000000 by decide)
  go_enter Tryz.func7, Tryz.ntmps7
  go_wp2_with fail
  refine (hA _).mono ?_
  rintro e w1 ⟨b1, g, cap, rfl, hcap, hg1, hg2, hc⟩
  have HV := valValue_any (ts := awTs) (a := some ⟨g, 0, none⟩) w1 (fun _ => ⟨g, rfl, hc⟩) hcap (by decide) (by decide)
  rw [aw_pv] at HV
  clear hc hA
  go_wp2_with fail
  refine HV.mono ?_
  rintro e w2 ⟨b2, v, rfl, _, hR⟩
  rw [if_pos (show (awV, ([] : List Sk), 0).2.2 = 0 from rfl)] at hR
  have HRd := Lib.hid (rdD_rd (fun b hd => hd.2) hR)
  obtain ⟨an, cn, ap, cp, rfl, _, _, hps⟩ := hR
  obtain ⟨gb, off, rfl, hgb, hcells⟩ := hps (by decide)
  obtain ⟨c0, c1, c2, c3, h4, hR1⟩ := hcells 1 (.mk 9 ⟨#[97]⟩ [] []) rfl
  obtain ⟨an1, cn1, ap1, cp1, e1⟩ := hR1.shape
  injection e1 with e1
  have e1' : [c0, c1, c2, c3] = [_, _, _, _] := congrArg Array.toList e1
  injection e1' with e0 e1'
  subst e0
  have hk : w2.cell? ⟨gb, off + 4, none⟩ = some (.int .i64 9) := h4.1
  have hglt := hgb.2
  have hW : Below w2.heap.size w2 (w2.alloc (.cells #[.int .i64 awV.k, .string awV.s, .slice an awV.ns.length cn, .slice (some ⟨gb, off, none⟩) awV.ps.length cp] 25)) := (Below.refl _ _).alloc (Nat.le_refl _) _
  have HT := vtext_any w2.heap.size 13 awV _ _ hW.size (HRd.out _ hW) (by rw [aw_len]; decide)
  rw [aw_txt] at HT
  have HB := Lib.hid ((b1.trans (b2.mono b1.size)).trans (hW.mono (b1.trans (b2.mono b1.size)).size))
  clear HV hps hcells h4 hR1 hW HRd hgb e1 e1'
  go_wp2_with fail
  refine HT.mono ?_
  rintro e w3 ⟨rfl, b3⟩
  go_wp2_with fail
  go_ret
  exact ⟨rfl, HB.out.trans (b3.mono HB.out.size)⟩

end Go.Proofs.YtiblffipfldgjaaGreatDoor

/-
  ValueDeep: lists and objects in one another: their texts, their tokens, what is read of them.
-/
namespace Go.Proofs.YtiblffipfldgjaaGreatDoor
open Go.RowKit

def op1 (o : Bool) : List UInt8 := if o then [123, 97, 58] else [91]
def cl1 (o : Bool) : UInt8 := if o then 125 else 93
def opT : List Bool → List UInt8
  | [] => []
  | o :: r => op1 o ++ opT r
def clT : List Bool → List UInt8
  | [] => []
  | o :: r => clT r ++ [cl1 o]
def nestV : List Bool → JV
  | [] => .mk 3 ⟨#[49]⟩ [] []
  | o :: r => if o then .mk 8 ⟨#[]⟩ [⟨#[97]⟩] [nestV r] else .mk 7 ⟨#[]⟩ [] [nestV r]
def nestK : List Bool → List Sk
  | [] => [(2, [49])]
  | o :: r => if o then (5, [123]) :: (1, [97]) :: (5, [58]) :: (nestK r ++ [(5, [125])]) else (5, [91]) :: (nestK r ++ [(5, [93])])
def cntO : List Bool → Nat
  | [] => 0
  | o :: r => (if o then 3 else 1) + cntO r

theorem opT_snoc : ∀ (l : List Bool) (o : Bool), opT (l ++ [o]) = opT l ++ op1 o
  | [], o => by show op1 o ++ [] = _; rw [List.append_nil]; rfl
  | a :: l, o => by show op1 a ++ opT (l ++ [o]) = (op1 a ++ opT l) ++ op1 o; rw [opT_snoc l o, List.append_assoc]
theorem clT_snoc : ∀ (l : List Bool) (o : Bool), clT (l ++ [o]) = cl1 o :: clT l
  | [], o => rfl
  | a :: l, o => by show clT (l ++ [o]) ++ [cl1 a] = cl1 o :: (clT l ++ [cl1 a]); rw [clT_snoc l o]; rfl
theorem cntO_snoc : ∀ (l : List Bool) (o : Bool), cntO (l ++ [o]) = cntO l + (if o then 3 else 1)
  | [], o => by show (if o then 3 else 1) + 0 = 0 + _; omega
  | a :: l, o => by show (if a then 3 else 1) + cntO (l ++ [o]) = ((if a then 3 else 1) + cntO l) + _; rw [cntO_snoc l o]; omega
theorem opT_len : ∀ l : List Bool, (opT l).length ≤ 3 * l.length
  | [] => Nat.le_refl _
  | o :: r => by have := opT_len r; show (op1 o ++ opT r).length ≤ _; rw [List.length_append, List.length_cons]; have h : (op1 o).length ≤ 3 := by cases o <;> decide
                 omega
theorem clT_len : ∀ l : List Bool, (clT l).length = l.length
  | [] => rfl
  | o :: r => by have := clT_len r; show (clT r ++ [cl1 o]).length = _; rw [List.length_append, List.length_cons, this]; rfl
theorem cntO_le : ∀ l : List Bool, cntO l ≤ 3 * l.length
  | [] => Nat.le_refl _
  | o :: r => by have := cntO_le r; show (if o then 3 else 1) + cntO r ≤ _; rw [List.length_cons]; cases o <;> simp <;> omega

theorem nest_ok : ∀ (l : List Bool) (m : Nat), l.length ≤ m → rdOk m (nestV l) = true
  | [], 0, _ => by kernel_rfl
  | [], m + 1, _ => by
    show (selfV (nestV []) && (!compV (nestV []) || (nestV []).ps.all (rdOk m))) = true
    rfl
  | o :: r, 0, h => by simp at h
  | o :: r, m + 1, h => by
    have ih := nest_ok r m (by simpa using h)
    cases o with
    | true =>
      show (selfV (.mk 8 ⟨#[]⟩ [⟨#[97]⟩] [nestV r]) && (!compV (.mk 8 ⟨#[]⟩ [⟨#[97]⟩] [nestV r]) || [nestV r].all (rdOk m))) = true
      rw [List.all_cons, ih]
      rfl
    | false =>
      show (selfV (.mk 7 ⟨#[]⟩ [] [nestV r]) && (!compV (.mk 7 ⟨#[]⟩ [] [nestV r]) || [nestV r].all (rdOk m))) = true
      rw [List.all_cons, ih]
      rfl
theorem nest_txt : ∀ (l : List Bool) (m : Nat), l.length ≤ m → vtxt m (nestV l) = opT l ++ (49 :: clT l)
  | [], 0, _ => rfl
  | [], m + 1, _ => rfl
  | o :: r, 0, h => by simp at h
  | o :: r, m + 1, h => by
    have ih := nest_txt r m (by simpa using h)
    cases o with
    | true =>
      show [123] ++ (([] ++ (([97] ++ [58]) ++ (vtxt m (nestV r) ++ []))) ++ [125]) = ([123, 97, 58] ++ opT r) ++ (49 :: (clT r ++ [125]))
      rw [ih]
      simp
    | false =>
      show [91] ++ (([] ++ ([] ++ (vtxt m (nestV r) ++ []))) ++ [93]) = ([91] ++ opT r) ++ (49 :: (clT r ++ [93]))
      rw [ih]
      simp
theorem nest_tok : ∀ (l : List Bool) (m : Nat), l.length ≤ m → vtk m (nestV l) = nestK l
  | [], 0, _ => rfl
  | [], m + 1, _ => rfl
  | o :: r, 0, h => by simp at h
  | o :: r, m + 1, h => by
    have ih := nest_tok r m (by simpa using h)
    cases o with
    | true =>
      show (5, [123]) :: (([(1, [97]), (5, [58])] ++ (vtk m (nestV r) ++ [])) ++ [(5, [125])]) = (5, [123]) :: (1, [97]) :: (5, [58]) :: (nestK r ++ [(5, [125])])
      rw [ih]
      simp
    | false =>
      show (5, [91]) :: (([] ++ (vtk m (nestV r) ++ [])) ++ [(5, [93])]) = (5, [91]) :: (nestK r ++ [(5, [93])])
      rw [ih]
      simp
theorem nestK_head (l : List Bool) : ∃ t r, nestK l = t :: r ∧ sg t 93 = false ∧ sg t 125 = false := by
  cases l with
  | nil => exact ⟨_, _, rfl, by decide, by decide⟩
  | cons o r => cases o <;> exact ⟨_, _, rfl, by decide, by decide⟩
theorem nestK_len : ∀ l : List Bool, (nestK l).length ≤ 4 * l.length + 1
  | [] => Nat.le_refl _
  | o :: r => by
    have := nestK_len r
    cases o with
    | true => show (nestK r ++ [(5, [125])]).length + 1 + 1 + 1 ≤ _; rw [List.length_append, List.length_cons, List.length_cons]; simp; omega
    | false => show (nestK r ++ [(5, [93])]).length + 1 ≤ _; rw [List.length_append, List.length_cons, List.length_cons]; simp; omega
theorem nestK_small : ∀ (l : List Bool) (t : Sk), t ∈ nestK l → t.2.length ≤ 1
  | [], t, h => by
    have : t = (2, [49]) := by simpa [nestK] using h
    rw [this]; decide
  | o :: r, t, h => by
    cases o with
    | true =>
      have h' : t = (5, [123]) ∨ t = (1, [97]) ∨ t = (5, [58]) ∨ t ∈ nestK r ∨ t = (5, [125]) := by simpa [nestK] using h
      rcases h' with rfl | rfl | rfl | h' | rfl
      · decide
      · decide
      · decide
      · exact nestK_small r t h'
      · decide
    | false =>
      have h' : t = (5, [91]) ∨ t ∈ nestK r ∨ t = (5, [93]) := by simpa [nestK] using h
      rcases h' with rfl | h' | rfl
      · decide
      · exact nestK_small r t h'
      · decide

/-- Deeper than may be: where the list, the object that is too deep begins. -/
theorem nest_deep : ∀ (f : Nat) (l : List Bool) (tl : List Sk), f < l.length → ∃ Z, pvT f (nestK l ++ tl) = (vz, Z, 4) ∧ Z.length + cntO (l.take f) = (nestK l ++ tl).length
  | _, [], _, h => by simp at h
  | 0, o :: r, tl, _ => by
    refine ⟨nestK (o :: r) ++ tl, ?_, rfl⟩
    cases o with
    | true => rfl
    | false => rfl
  | f + 1, o :: r, tl, h => by
    cases o with
    | true =>
      obtain ⟨Z, hZ, hl⟩ := nest_deep f r ((5, [125]) :: tl) (by simpa using h)
      refine ⟨Z, ?_, ?_⟩
      · have e : nestK (true :: r) ++ tl = (5, [123]) :: ((1, [97]) :: (5, [58]) :: (nestK r ++ (5, [125]) :: tl)) := by
          show ((5, [123]) :: (1, [97]) :: (5, [58]) :: (nestK r ++ [(5, [125])])) ++ tl = _
          simp
        rw [e, pvT_obj]
        show vObjGo (pvT f) ((nestK r ++ (5, [125]) :: tl).length + 1 + 1 + 1) ((1, [97]) :: (5, [58]) :: (nestK r ++ (5, [125]) :: tl)) [] [] = _
        have e1 : hdK ((1, [97]) :: (5, [58]) :: (nestK r ++ (5, [125]) :: tl)) = (1, [97]) := rfl
        have e2 : ((1, [97]) :: (5, [58]) :: (nestK r ++ (5, [125]) :: tl) : List Sk).tail = (5, [58]) :: (nestK r ++ (5, [125]) :: tl) := rfl
        have e3 : hdK ((5, [58]) :: (nestK r ++ (5, [125]) :: tl)) = (5, [58]) := rfl
        have e4 : ((5, [58]) :: (nestK r ++ (5, [125]) :: tl) : List Sk).tail = nestK r ++ (5, [125]) :: tl := rfl
        unfold vObjGo
        rw [e1, e2, e3, e4, if_neg (by decide), if_pos rfl, if_pos (by decide), hZ, if_neg (show ¬ ((vz, Z, 4) : VR).2.2 = 0 from by show ¬ (4 : Nat) = 0; decide)]
      · show Z.length + (3 + cntO (r.take f)) = _
        have e : nestK (true :: r) ++ tl = (5, [123]) :: ((1, [97]) :: (5, [58]) :: (nestK r ++ (5, [125]) :: tl)) := by
          show ((5, [123]) :: (1, [97]) :: (5, [58]) :: (nestK r ++ [(5, [125])])) ++ tl = _
          simp
        rw [e, List.length_cons, List.length_cons, List.length_cons]
        omega
    | false =>
      obtain ⟨Z, hZ, hl⟩ := nest_deep f r ((5, [93]) :: tl) (by simpa using h)
      have e : nestK (false :: r) ++ tl = (5, [91]) :: (nestK r ++ (5, [93]) :: tl) := by
        show ((5, [91]) :: (nestK r ++ [(5, [93])])) ++ tl = _
        simp
      obtain ⟨t, q, ht, h1, _⟩ := nestK_head r
      refine ⟨Z, ?_, ?_⟩
      · rw [e, pvT_list]
        have hh : sg (hdK (nestK r ++ (5, [93]) :: tl)) 93 = false := by rw [ht]; exact h1
        unfold vListGo
        rw [if_neg (by rw [hh]; decide), hZ, if_neg (show ¬ ((vz, Z, 4) : VR).2.2 = 0 from by show ¬ (4 : Nat) = 0; decide)]
      · show Z.length + (1 + cntO (r.take f)) = _
        rw [e, List.length_cons]
        omega

/-- The bits at hand. -/
def bitsL (zs : List Bool) (j : Nat) : List Bool := (List.range j).map fun i => zs.getD i false
theorem bitsL_len (zs : List Bool) (j : Nat) : (bitsL zs j).length = j := by unfold bitsL; simp
theorem bitsL_snoc (zs : List Bool) (j : Nat) : bitsL zs (j + 1) = bitsL zs j ++ [zs.getD j false] := by unfold bitsL; rw [List.range_succ, List.map_append]; rfl
theorem bitsL_take (zs : List Bool) (j k : Nat) (h : j ≤ k) : (bitsL zs k).take j = bitsL zs j := by
  unfold bitsL
  rw [← List.map_take, List.take_range, Nat.min_eq_left h]

end Go.Proofs.YtiblffipfldgjaaGreatDoor

/-
  A slice of bools, read: its bits, its length, its cells.
-/
namespace Go.Proofs.YtiblffipfldgjaaGreatDoor
open Go.ChangeShapes Go.WideShapes Go.ChangeAt Go.RowKit

theorem plain_addr' {W : World} {a : Addr} {v : Value} (h : W.cell? a = some v) : ∃ b off, a = ⟨b, off, none⟩ := by
  obtain ⟨b, off, spot⟩ := a
  have hspot : spot = none := by simpa using World.cell?_spot h
  subst hspot
  exact ⟨b, off, rfl⟩
theorem bools_read {H : Type} {enc : TypeId × Value → H} {W : World} {a : Option Addr} {len cap : Nat} {d : DataW H} {p : List MemPlace} {base : Nat} {held : Bool} (h : DataW.Trod enc Tryz.prog W base (fun _ => true) held 43 (.slice a len cap) d p) :
    ∃ zs : List Bool, zs.length = len ∧ len ≤ maxLen ∧ len ≤ cap ∧ (0 < len → ∃ b off, a = some ⟨b, off, none⟩ ∧ ∀ i z, zs[i]? = some z → W.cell? ⟨b, off + i, none⟩ = some (.bool z)) := by
  obtain ⟨fuel, hf⟩ := h
  rcases Go.Deep.open_bools Tryz.underlying43 Tryz.underlying4 (by kernel_rfl) hf with ⟨hcs, _⟩ | ⟨x, l, c, B, hcs, _, hl, hm, _, hcell⟩
  · simp [Value.cells] at hcs
    obtain ⟨rfl, rfl, rfl⟩ := hcs
    exact ⟨[], rfl, Nat.zero_le _, Nat.le_refl _, fun h => absurd h (by omega)⟩
  · simp [Value.cells] at hcs
    obtain ⟨rfl, rfl, rfl⟩ := hcs
    refine ⟨(List.range len).map B, by simp, by omega, hl, fun h => ?_⟩
    obtain ⟨b, off, rfl⟩ := plain_addr' (hcell 0 (by omega))
    refine ⟨b, off, rfl, fun i z hz => ?_⟩
    by_cases hi : i < len
    · have := hcell i (by omega)
      rw [add_plain] at this
      have e : z = B i := by simpa [hi] using hz.symm
      rw [e]
      exact this
    · simp [hi] at hz

end Go.Proofs.YtiblffipfldgjaaGreatDoor

/-
  ValueDeep: its walk.
-/
namespace Go.Proofs.YtiblffipfldgjaaGreatDoor
open Go.RowKit

theorem vrem_nat (v n : Int) (hn : 0 < n) : ∃ u : Nat, v % n = (u : Int) ∧ (u : Int) < n := ⟨(v % n).toNat, by have := Int.emod_nonneg v (show n ≠ 0 by omega); omega, by have := Int.emod_lt_of_pos v hn; have := Int.emod_nonneg v (show n ≠ 0 by omega); omega⟩

/-- The text of nested lists and objects: its tokens. -/
theorem nest_lex {X : ByteArray} {os : List Bool} (ho : os.length ≤ 20) (hX : vbl X = opT os ++ (49 :: clT os)) :
    ∃ ts : List Tk, ts.map strip = nestK os ∧ lexP X.data.toList = (ts, 0, 0) ∧ 0 < ts.length ∧ ts.length ≤ 100 ∧ (∀ t ∈ ts, t.s.length ≤ 1000000) ∧ X.size ≤ 100 := by
  have h1 := opT_len os
  have h2 := clT_len os
  have h3 := nestK_len os
  have hlen : (opT os ++ (49 :: clT os)).length ≤ 81 := by rw [List.length_append, List.length_cons]; omega
  have hT := nest_txt os 20 ho
  obtain ⟨ts, hst, hlx⟩ := lex_txt (nest_ok os 20 ho) (by rw [hT]; omega)
  rw [hT] at hlx
  rw [nest_tok os 20 ho] at hst
  have hl : ts.length = (nestK os).length := by rw [← hst, List.length_map]
  refine ⟨ts, hst, ?_, ?_, by omega, fun t ht => ?_, ?_⟩
  · show lexP (vbl X) = _
    rw [hX]; exact hlx
  · obtain ⟨t, r, hr, _⟩ := nestK_head os
    rw [hl, hr, List.length_cons]; omega
  · have hm : strip t ∈ nestK os := by rw [← hst]; exact List.mem_map.2 ⟨t, ht, rfl⟩
    have := nestK_small os _ hm
    exact Nat.le_trans this (by decide)
  · show (vbl X).length ≤ _
    rw [hX]; omega

theorem value_ok {a : Option Addr} {cap : Nat} {ts : List Tk} {os : List Bool} (w : World) (ht : TkAt w a ts) (hc : ts.length ≤ cap) (hs : ts.length ≤ 100) (hz : ∀ t ∈ ts, t.s.length ≤ 1000000) (hst : ts.map strip = nestK os) (ho : os.length ≤ 12) :
    Calls Tryz.prog 10 #[.slice a ts.length cap, .int .i64 0] w fun e w' => Below w.heap.size w w' ∧ ∃ v, e = .returned (.tuple #[v, .int .i64 ts.length, .int .i64 0]) ∧ RdD w' (fun b => w.heap.size ≤ b ∧ b < w'.heap.size) 13 (nestV os) v := by
  have hp : pvT 12 (ts.map strip) = (nestV os, [], 0) := by
    rw [hst]
    have := txt_reads 12 (nestV os) (nest_ok os 12 ho) 12 (Nat.le_refl _) []
    rwa [List.append_nil, nest_tok os 12 ho] at this
  refine (valValue_any w ht hc (by omega) hz).mono fun e w' h => ?_
  rw [hp] at h
  obtain ⟨hb, v, he, _, hR⟩ := h
  rw [if_pos (show ((nestV os, ([] : List Sk), 0) : VR).2.2 = 0 from rfl)] at hR
  exact ⟨hb, v, he, hR⟩
theorem value_deep {a : Option Addr} {cap : Nat} {ts : List Tk} {os : List Bool} (w : World) (ht : TkAt w a ts) (hc : ts.length ≤ cap) (hs : ts.length ≤ 100) (hz : ∀ t ∈ ts, t.s.length ≤ 1000000) (hst : ts.map strip = nestK os) (ho : 12 < os.length) :
    Calls Tryz.prog 10 #[.slice a ts.length cap, .int .i64 0] w fun e w' => Below w.heap.size w w' ∧ e = .returned (.tuple #[leaf 0 ⟨#[]⟩, .int .i64 (cntO (os.take 12) : Nat), .int .i64 4]) := by
  obtain ⟨Z, hZ, hl⟩ := nest_deep 12 os [] ho
  rw [List.append_nil, ← hst] at hZ
  rw [List.append_nil, ← hst, List.length_map] at hl
  refine (valValue_any w ht hc (by omega) hz).mono fun e w' h => ?_
  rw [hZ] at h
  obtain ⟨hb, v, he, _, hR⟩ := h
  rw [if_neg (show ¬ ((vz, Z, 4) : VR).2.2 = 0 from by show ¬ (4 : Nat) = 0; decide)] at hR
  subst hR
  refine ⟨hb, ?_⟩
  have e1 : ts.length - Z.length = cntO (os.take 12) := by omega
  rw [he]
  show Ending.returned (.tuple #[leaf 0 ⟨#[]⟩, .int .i64 ((ts.length - Z.length : Nat) : Int), .int .i64 ((4 : Nat) : Int)]) = _
  rw [e1]
  rfl

set_option maxHeartbeats 8000000 in
set_option maxRecDepth 100000 in
theorem valueDeep_walk (n : Int) (a : Option Addr) (len cap : Nat) (zs : List Bool) (w : World) (hz : zs.length = len) (hl : len ≤ maxLen) (hr : 0 < len → ∃ b off, a = some ⟨b, off, none⟩ ∧ ∀ i z, zs[i]? = some z → w.cell? ⟨b, off + i, none⟩ = some (.bool z)) :
    Calls Tryz.prog 4 #[.int .i64 n, .slice a len cap] w (TrueBelow w) := by
  obtain ⟨u, eu, lu⟩ := vrem_nat n 20 (by omega)
  have HPn : ∀ W, Calls Tryz.prog 15 #[.int .i64 n, .int .i64 20] W fun e w' => e = .returned (.int .i64 (u : Int)) ∧ W = w' := fun W => by have := place_any n 20 W (by omega) (by omega); rw [eu] at this; exact this
  have hu : u < 20 := by omega
  have HZ := Lib.hid hz
  unfold maxLen at hl
  clear eu lu hz
  go_enter Tryz.func4, Tryz.ntmps4
  go_wp2_with fail
  with_reducible refine (HPn _).mono ?_
  rintro e w' ⟨rfl, rfl⟩
  clear HPn
  go_wp2_with fail
  go_loop [6, 7, 8, 9, 10] (fun s t tok bad i => ∃ (j c : Nat) (bd : Int) (S T : ByteArray), j ≤ u + 1 ∧ s = .string S ∧ t = .string T ∧ tok = .int .i64 (c : Nat) ∧ bad = .int .i64 bd ∧ i = .int .i64 j ∧ Hid (vbl S = opT (bitsL zs j)) ∧ Hid (vbl T = clT (bitsL zs j)) ∧ Hid (c = cntO (bitsL zs j)) ∧ Hid (bd = if j ≤ 12 then -1 else (cntO (bitsL zs 12) : Int)) ∧ c ≤ 3 * j) (fun _ _ _ _ i => u + 1 - (intOf i).toNat)
  case atStart => exact ⟨0, 0, -1, ⟨#[]⟩, ⟨#[]⟩, by omega, rfl, rfl, rfl, rfl, rfl, Lib.hid rfl, Lib.hid rfl, Lib.hid rfl, Lib.hid rfl, by omega⟩
  case round =>
    obtain ⟨j, c, bd, S, T, hj, rfl, rfl, rfl, rfl, rfl, HS, HT, HC, HBD, hc⟩ := hrel
    have zS : S.size ≤ 60 := by
      have h1 := opT_len (bitsL zs j)
      rw [bitsL_len] at h1
      show (vbl S).length ≤ 60
      rw [HS.out]; omega
    have zT : T.size ≤ 20 := by
      show (vbl T).length ≤ 20
      rw [HT.out, clT_len, bitsL_len]; omega
    by_cases hlt : j < u + 1
    · have hd : decide ((j : Int) < 1 + u) = true := decide_eq_true (by omega)
      by_cases hge : len ≤ j
      · have hdl : decide ((j : Int) < (len : Int)) = false := decide_eq_false (by omega)
        have hzl := HZ.out
        by_cases h12 : j = 12
        · have e12 : ((j : Int) == 12) = true := by rw [beq_iff_eq]; omega
          have hj12 := Lib.hid h12
          clear h12
          have hB := Lib.hid (show zs.getD j false = false by rw [List.getD_eq_getElem?_getD, List.getElem?_eq_none (by omega)]; rfl)
          have hw : IntKind.i64.wrap ((c : Int) + 1) = (c : Int) + 1 := IntWalk.i64_in _ (by omega)
          go_wp2_with fail
          go_round
          case rel =>
            refine ⟨j + 1, c + 1, (c : Int), S ++ ⟨#[91]⟩, ⟨#[93]⟩ ++ T, by omega, rfl, rfl, rfl, rfl, by go_num, Lib.hid (by rw [vbl_append, HS.out, bitsL_snoc, opT_snoc, hB.out]; rfl), Lib.hid (by rw [vbl_append, HT.out, bitsL_snoc, clT_snoc, hB.out]; rfl), Lib.hid (by rw [HC.out, bitsL_snoc, cntO_snoc, hB.out]; rfl), ?_, by omega⟩
            exact Lib.hid (by rw [if_neg (by have := hj12.out; omega), HC.out, hj12.out])
          case measure => simp [intOf]; omega
        · have e12 : ((j : Int) == 12) = false := by rw [beq_eq_false_iff_ne]; omega
          have hne12 := Lib.hid h12
          have hB := Lib.hid (show zs.getD j false = false by rw [List.getD_eq_getElem?_getD, List.getElem?_eq_none (by omega)]; rfl)
          have hw : IntKind.i64.wrap ((c : Int) + 1) = (c : Int) + 1 := IntWalk.i64_in _ (by omega)
          go_wp2_with fail
          go_round
          case rel =>
            refine ⟨j + 1, c + 1, bd, S ++ ⟨#[91]⟩, ⟨#[93]⟩ ++ T, by omega, rfl, rfl, rfl, rfl, by go_num, Lib.hid (by rw [vbl_append, HS.out, bitsL_snoc, opT_snoc, hB.out]; rfl), Lib.hid (by rw [vbl_append, HT.out, bitsL_snoc, clT_snoc, hB.out]; rfl), Lib.hid (by rw [HC.out, bitsL_snoc, cntO_snoc, hB.out]; rfl), ?_, by omega⟩
            exact Lib.hid (by
              rw [HBD.out]
              by_cases h : j ≤ 12
              · rw [if_pos h, if_pos (by have := hne12.out; omega)]
              · rw [if_neg h, if_neg (by omega)])
          case measure => simp [intOf]; omega
      · have hdl : decide ((j : Int) < (len : Int)) = true := decide_eq_true (by omega)
        have hzl := HZ.out
        obtain ⟨b, off, rfl, hcell⟩ := hr (by omega)
        have hx : zs[j]? = some (zs.getD j false) := by rw [List.getD_eq_getElem?_getD, List.getElem?_eq_getElem (by omega)]; rfl
        have hcx := hcell j _ hx
        clear hcell hx hr
        cases hbit : zs.getD j false with
        | true =>
          have hB := Lib.hid hbit
          rw [hbit] at hcx
          clear hbit hzl
          by_cases h12 : j = 12
          · have e12 : ((j : Int) == 12) = true := by rw [beq_iff_eq]; omega
            have hj12 := Lib.hid h12
            clear h12
            have hw : IntKind.i64.wrap ((c : Int) + 3) = (c : Int) + 3 := IntWalk.i64_in _ (by omega)
            go_wp2_with fail
            go_round
            case rel =>
              refine ⟨j + 1, c + 3, (c : Int), S ++ ⟨#[123, 97, 58]⟩, ⟨#[125]⟩ ++ T, by omega, rfl, rfl, rfl, rfl, by go_num, Lib.hid (by rw [vbl_append, HS.out, bitsL_snoc, opT_snoc, hB.out]; rfl), Lib.hid (by rw [vbl_append, HT.out, bitsL_snoc, clT_snoc, hB.out]; rfl), Lib.hid (by rw [HC.out, bitsL_snoc, cntO_snoc, hB.out]; rfl), ?_, by omega⟩
              exact Lib.hid (by rw [if_neg (by have := hj12.out; omega), HC.out, hj12.out])
            case measure => simp [intOf]; omega
          · have e12 : ((j : Int) == 12) = false := by rw [beq_eq_false_iff_ne]; omega
            have hne12 := Lib.hid h12
            have hw : IntKind.i64.wrap ((c : Int) + 3) = (c : Int) + 3 := IntWalk.i64_in _ (by omega)
            go_wp2_with fail
            go_round
            case rel =>
              refine ⟨j + 1, c + 3, bd, S ++ ⟨#[123, 97, 58]⟩, ⟨#[125]⟩ ++ T, by omega, rfl, rfl, rfl, rfl, by go_num, Lib.hid (by rw [vbl_append, HS.out, bitsL_snoc, opT_snoc, hB.out]; rfl), Lib.hid (by rw [vbl_append, HT.out, bitsL_snoc, clT_snoc, hB.out]; rfl), Lib.hid (by rw [HC.out, bitsL_snoc, cntO_snoc, hB.out]; rfl), ?_, by omega⟩
              exact Lib.hid (by
                rw [HBD.out]
                by_cases h : j ≤ 12
                · rw [if_pos h, if_pos (by have := hne12.out; omega)]
                · rw [if_neg h, if_neg (by omega)])
            case measure => simp [intOf]; omega
        | false =>
          have hB := Lib.hid hbit
          rw [hbit] at hcx
          clear hbit hzl
          by_cases h12 : j = 12
          · have e12 : ((j : Int) == 12) = true := by rw [beq_iff_eq]; omega
            have hj12 := Lib.hid h12
            clear h12
            have hw : IntKind.i64.wrap ((c : Int) + 1) = (c : Int) + 1 := IntWalk.i64_in _ (by omega)
            go_wp2_with fail
            go_round
            case rel =>
              refine ⟨j + 1, c + 1, (c : Int), S ++ ⟨#[91]⟩, ⟨#[93]⟩ ++ T, by omega, rfl, rfl, rfl, rfl, by go_num, Lib.hid (by rw [vbl_append, HS.out, bitsL_snoc, opT_snoc, hB.out]; rfl), Lib.hid (by rw [vbl_append, HT.out, bitsL_snoc, clT_snoc, hB.out]; rfl), Lib.hid (by rw [HC.out, bitsL_snoc, cntO_snoc, hB.out]; rfl), ?_, by omega⟩
              exact Lib.hid (by rw [if_neg (by have := hj12.out; omega), HC.out, hj12.out])
            case measure => simp [intOf]; omega
          · have e12 : ((j : Int) == 12) = false := by rw [beq_eq_false_iff_ne]; omega
            have hne12 := Lib.hid h12
            have hw : IntKind.i64.wrap ((c : Int) + 1) = (c : Int) + 1 := IntWalk.i64_in _ (by omega)
            go_wp2_with fail
            go_round
            case rel =>
              refine ⟨j + 1, c + 1, bd, S ++ ⟨#[91]⟩, ⟨#[93]⟩ ++ T, by omega, rfl, rfl, rfl, rfl, by go_num, Lib.hid (by rw [vbl_append, HS.out, bitsL_snoc, opT_snoc, hB.out]; rfl), Lib.hid (by rw [vbl_append, HT.out, bitsL_snoc, clT_snoc, hB.out]; rfl), Lib.hid (by rw [HC.out, bitsL_snoc, cntO_snoc, hB.out]; rfl), ?_, by omega⟩
              exact Lib.hid (by
                rw [HBD.out]
                by_cases h : j ≤ 12
                · rw [if_pos h, if_pos (by have := hne12.out; omega)]
                · rw [if_neg h, if_neg (by omega)])
            case measure => simp [intOf]; omega
    · have hd : decide ((j : Int) < 1 + u) = false := decide_eq_false (by omega)
      obtain rfl : j = u + 1 := by omega
      have hos := bitsL_len zs (u + 1)
      have zS1 : (S ++ ⟨#[49]⟩).size ≤ 61 := by rw [ByteArray.size_append]; show _ + 1 ≤ _; omega
      have hX : vbl ((S ++ ⟨#[49]⟩) ++ T) = opT (bitsL zs (u + 1)) ++ (49 :: clT (bitsL zs (u + 1))) := by
        rw [vbl_append, vbl_append, HS.out, HT.out, List.append_assoc]; rfl
      obtain ⟨ts, hst, hlx, hne, hts, htz, hXs⟩ := nest_lex (by omega) hX
      have HA := fun W => lex_toks hlx hne W (by omega)
      have HX := Lib.hid hX
      have HST := Lib.hid hst
      have HTZ := Lib.hid htz
      have hbd : bd = if u < 12 then -1 else (cntO (bitsL zs 12) : Int) := by
        rw [HBD.out]
        by_cases h : u < 12
        · rw [if_pos h, if_pos (by omega)]
        · rw [if_neg h, if_neg (by omega)]
      have HBD2 := Lib.hid hbd
      clear hX hlx hst htz HS HT hr HBD hbd HC
      go_wp2_with fail
      refine (HA _).mono ?_
      rintro e w1 ⟨b1, g, cp1, rfl, hcap, hg1, hg2, hc1⟩
      have hB1 := b1
      by_cases h12 : u < 12
      · have e12 : decide ((1 : Int) + u ≤ 12) = true := decide_eq_true (by omega)
        have HV := value_ok (a := some ⟨g, 0, none⟩) w1 (fun _ => ⟨g, rfl, hc1⟩) hcap hts HTZ.out HST.out (by omega)
        clear hc1 HA
        go_wp2_with fail
        refine HV.mono ?_
        rintro e w2 ⟨b2, v, rfl, hR⟩
        obtain ⟨an, cn, ap, cp, rfl⟩ := hR.shape
        have hW : Below w2.heap.size w2 (w2.alloc (.cells #[.int .i64 (nestV (bitsL zs (u + 1))).k, .string (nestV (bitsL zs (u + 1))).s, .slice an (nestV (bitsL zs (u + 1))).ns.length cn, .slice ap (nestV (bitsL zs (u + 1))).ps.length cp] 25)) := (Below.refl _ _).alloc (Nat.le_refl _) _
        have hok : rdOk 12 (nestV (bitsL zs (u + 1))) = true := nest_ok _ 12 (by omega)
        have htx : vtxt 12 (nestV (bitsL zs (u + 1))) = vbl ((S ++ ⟨#[49]⟩) ++ T) := by rw [nest_txt _ 12 (by omega), HX.out]
        have HT := vtext_any w2.heap.size 13 (nestV (bitsL zs (u + 1))) _ _ hW.size (rdD_rd (fun b hd => hd.2) hR _ hW) (by rw [htx]; show ((S ++ ⟨#[49]⟩) ++ T).size ≤ _; omega)
        have hvt : (⟨(vtextB (nestV (bitsL zs (u + 1)))).toArray⟩ : ByteArray) = (S ++ ⟨#[49]⟩) ++ T := by
          apply vbl_inj
          show vtextB (nestV (bitsL zs (u + 1))) = _
          unfold vtextB
          rw [hok, htx]; rfl
        unfold StrBelow at HT
        rw [hvt] at HT
        have hB3 := (hB1.trans (b2.mono hB1.size)).trans (hW.mono (hB1.trans (b2.mono hB1.size)).size)
        have HB3 := Lib.hid hB3
        have HAW := vAwake
        generalize nestV (bitsL zs (u + 1)) = x at *
        clear hW hok htx hvt hB3 HV hR b1 b2 hB1 HX
        go_wp2_with fail
        refine HT.mono ?_
        rintro e w3 ⟨rfl, b3⟩
        go_wp2_with fail
        refine (HAW w3).mono ?_
        rintro e w4 ⟨rfl, b4⟩
        go_wp2_with fail
        go_ret
        exact ⟨rfl, (HB3.out.trans (b3.mono HB3.out.size)).trans (b4.mono (HB3.out.trans (b3.mono HB3.out.size)).size)⟩
      · have e12 : decide ((1 : Int) + u ≤ 12) = false := decide_eq_false (by omega)
        have HV := value_deep (a := some ⟨g, 0, none⟩) w1 (fun _ => ⟨g, rfl, hc1⟩) hcap hts HTZ.out HST.out (by omega)
        have hbd : bd = (cntO ((bitsL zs (u + 1)).take 12) : Int) := by rw [HBD2.out, if_neg h12, bitsL_take _ _ _ (by omega)]
        rw [← hbd] at HV
        have HAW := vAwake
        clear hc1 HA hbd
        go_wp2_with fail
        refine HV.mono ?_
        rintro e w2 ⟨b2, rfl⟩
        have HB2 := Lib.hid (hB1.trans (b2.mono hB1.size))
        have hlz : leaf 0 ⟨#[]⟩ = .agg #[.int .i64 0, .string ⟨#[]⟩, .slice none 0 0, .slice none 0 0] := rfl
        clear HV b2 b1 hB1
        unfold leaf
        go_wp2_with fail
        refine (HAW _).mono ?_
        rintro e w4 ⟨rfl, b4⟩
        go_wp2_with fail
        go_ret
        have hB3 := HB2.out.alloc HB2.out.size (.cells #[.int .i64 0, .string ⟨#[]⟩, .slice none 0 0, .slice none 0 0] 25)
        exact ⟨rfl, hB3.trans (b4.mono hB3.size)⟩

end Go.Proofs.YtiblffipfldgjaaGreatDoor
