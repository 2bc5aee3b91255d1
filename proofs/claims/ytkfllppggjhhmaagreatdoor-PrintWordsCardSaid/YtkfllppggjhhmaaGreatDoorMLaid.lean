/-
  doc.Parse.
-/
import Derived.Test.YtkfllppggjhhmaaGreatDoorMDe3
import Derived.Test.YtkfllppggjhhmaaGreatDoorMPis0
import Derived.Test.YtkfllppggjhhmaaGreatDoorMPis2
import Derived.Test.YtkfllppggjhhmaaGreatDoorRows
import Derived.Test.YtkfllppggjhhmaaGreatDoorMLx3
import Derived.ProofKit
import Derived.OpenShut
namespace Go.Proofs.YtkfllppggjhhmaaGreatDoor
open Go.RowKit

/-- What Parse answers: the document in new memory, the place, the error. -/
def ParseIs (w : World) (r : DocT × Nat × Nat) (e : Ending) (w' : World) : Prop :=
  ∃ vo vf, e = .returned (.tuple #[.agg #[vo, vf], .int .i64 (r.2.1 : Int), .int .i64 (r.2.2 : Int)]) ∧ DocE w' (fun b => w.heap.size ≤ b ∧ b < w'.heap.size) r.1 (.agg #[vo, vf]) ∧ Below w.heap.size w w'
theorem docZ_E (w : World) (D : Nat → Prop) : DocE w D docZ (.agg #[.slice none 0 0, .slice none 0 0]) := ⟨_, _, rfl, .nil, .nil⟩

def dcB : Obj := .cells #[.slice none 0 0, .slice none 0 0] 25
def tokSmall (ts : List Tk) : Bool := ts.all fun t => decide (t.s.length ≤ 1000000)

theorem pv_start {w2 : World} {a : Option Addr} {cap : Nat} {ts : List Tk} {z : Nat} (ha : a = none ∨ ∃ g, a = some ⟨g, 0, none⟩) (ht : TkAt w2 a ts) (hc : ts.length ≤ cap) (hs : ts.length ≤ 600) (hz : z ≤ 4000) (hsz : ∀ t ∈ ts, t.s.length ≤ 1000000) :
    Pv ⟨w2.heap.size + 1, w2.heap.size, a, cap, ts, z⟩ 0 ⟨ts, 0, 0⟩ (w2.alloc (.cells #[.slice a ts.length cap, .int .i64 0, .int .i64 (z : Int), .int .i64 0, .int .i64 0, .int .i64 0] 93 (0, 0))) := by
  have hsz2 : w2.heap.size + 1 ≤ (w2.alloc (.cells #[.slice a ts.length cap, .int .i64 0, .int .i64 (z : Int), .int .i64 0, .int .i64 0, .int .i64 0] 93 (0, 0))).heap.size := by simp
  refine ⟨⟨ts.length, 0, heap_alloc_new _ _, Nat.zero_le _, Nat.le_refl _, by rw [List.take_length, List.drop_zero]⟩, fun h => absurd rfl h, fun h0 => ?_, fun _ => ha, hsz2, Nat.lt_succ_self _, hc, hs, hz, by decide, hsz⟩
  obtain ⟨g, e, hcell⟩ := ht h0
  obtain ⟨u, hu⟩ := tkCells_first h0
  have hg := cell_lt (hcell 0 u hu)
  exact ⟨g, e, by show g ≠ w2.heap.size; omega, by show g < w2.heap.size + 1; omega, fun j u hj => (World.cell?_of_block (a := ⟨g, j, none⟩) (Below.heap_alloc _ _ _ hg)).trans (hcell j u hj)⟩
theorem tk_of {w : World} {B : Nat} {T : TypeId} {v : Value} {ts : List Tk} (h : w.ownsRow B T 3 v ts.length (tkCells ts)) : ∃ a cap, v = .slice a ts.length cap ∧ ts.length ≤ cap ∧ TkAt w a ts ∧ (a = none ∨ ∃ g, a = some ⟨g, 0, none⟩) := by
  obtain ⟨a, cap, e, hc, ht, _⟩ := tkAt_of h
  refine ⟨a, cap, e, hc, ht, ?_⟩
  rcases h.2 with ⟨hv, _⟩ | ⟨g, cap', cur, hv, _⟩
  · rw [hv] at e; injection e with e; exact .inl e.symm
  · rw [hv] at e; injection e with e; exact .inr ⟨g, e.symm⟩
theorem below_two {w W : World} (h : Below w.heap.size w W) (u v : Value) : Below w.heap.size w ((W.setCell ⟨w.heap.size, 0, none⟩ u).setCell ⟨w.heap.size, 1, none⟩ v) := (h.setCell (p := ⟨w.heap.size, 0, none⟩) (Nat.le_refl _) u).setCell (p := ⟨w.heap.size, 1, none⟩) (Nat.le_refl _) v
theorem dc_two {W : World} {g : Nat} {x y : Value} {T : TypeId} (h : W.heap[g]? = some (.cells #[x, y] T (0, 0))) (c0 c1 : Value) : ((W.setCell ⟨g, 0, none⟩ c0).setCell ⟨g, 1, none⟩ c1).cell? ⟨g, 0, none⟩ = some c0 ∧ ((W.setCell ⟨g, 0, none⟩ c0).setCell ⟨g, 1, none⟩ c1).cell? ⟨g, 1, none⟩ = some c1 ∧ ((W.setCell ⟨g, 0, none⟩ c0).setCell ⟨g, 1, none⟩ c1).heap[g]? = some (.cells #[c0, c1] T (0, 0)) := by
  have h2 : ((W.setCell ⟨g, 0, none⟩ c0).setCell ⟨g, 1, none⟩ c1).heap[g]? = some (.cells #[c0, c1] T (0, 0)) := by rw [Lib.heap_setCell_same (Lib.heap_setCell_same h c0) c1]; rfl
  exact ⟨Lib.cell_of_heap h2 0, Lib.cell_of_heap h2 1, h2⟩

set_option maxHeartbeats 8000000 in
set_option maxRecDepth 100000 in
theorem parse_any (s : ByteArray) (w : World) (hs : s.size ≤ 1000000000) (hsm : tokSmall (lexP s.data.toList).1 = true) : Calls Tryz.prog 16 #[.string s] w (ParseIs w (parseM s.data.toList)) := by
  have hb0 : Below w.heap.size w (w.alloc dcB) := (Below.refl _ w).alloc (Nat.le_refl _) _
  have hz0 : (w.alloc dcB).heap.size = w.heap.size + 1 := by simp
  have hx0 : (w.alloc dcB).heap[w.heap.size]? = some dcB := heap_alloc_new _ _
  by_cases hbig : 4000 < s.size
  · have HM := Lib.hid (show parseM s.data.toList = (docZ, 0, 3) by unfold parseM; rw [if_pos (show 4000 < s.data.toList.length from hbig)])
    have hd : decide ((4000 : Int) < (s.size : Int)) = true := decide_eq_true (by omega)
    unfold dcB at hb0
    clear hsm
    go_enter Tryz.func16, Tryz.ntmps16
    go_wp2_with fail
    refine bodyPost_ret (v := .tuple #[.agg #[.slice none 0 0, .slice none 0 0], .int .i64 0, .int .i64 3]) (by simp [results, Tryz.results16, go_sem]) rfl ?_
    rw [HM.out]
    exact ⟨_, _, rfl, docZ_E _ _, hb0⟩
  · have hd : decide ((4000 : Int) < (s.size : Int)) = false := decide_eq_false (by omega)
    have HLX := lexAll_any s (w.alloc dcB) hs
    have HM := Lib.hid (show parseM s.data.toList = if (lexP s.data.toList).2.2 = 0 then (if 600 < (lexP s.data.toList).1.length then (docZ, 0, 3) else if (dcM s.size ⟨(lexP s.data.toList).1, 0, 0⟩).2.er = 0 then ((dcM s.size ⟨(lexP s.data.toList).1, 0, 0⟩).1, 0, 0) else (docZ, (dcM s.size ⟨(lexP s.data.toList).1, 0, 0⟩).2.wr, (dcM s.size ⟨(lexP s.data.toList).1, 0, 0⟩).2.er)) else (docZ, (lexP s.data.toList).2.1, (lexP s.data.toList).2.2) by
      unfold parseM
      rw [if_neg (show ¬ 4000 < s.data.toList.length from hbig)]
      rfl)
    generalize lexP s.data.toList = LR at *
    obtain ⟨ts, at_, er⟩ := LR
    dsimp only at HM hsm
    have HSM := Lib.hid hsm
    have HB0 := Lib.hid hb0
    have HX0 := Lib.hid hx0
    have HZ0 := Lib.hid hz0
    clear hsm hb0 hx0 hz0
    unfold dcB at HLX
    go_enter Tryz.func16, Tryz.ntmps16
    go_wp2_with fail
    refine HLX.mono ?_
    rintro e w1 ⟨v, rfl, hown, hb1⟩
    dsimp only at hown
    obtain ⟨a, cap, rfl, hc, ht, ha⟩ := tk_of hown
    have hb2 : Below w.heap.size w w1 := HB0.out.trans ((show Below (w.alloc dcB).heap.size (w.alloc dcB) w1 from hb1).mono HB0.out.size)
    have hlt : w.heap.size < w1.heap.size := by have := hb1.size; have h2 := HZ0.out; unfold dcB at h2; omega
    have hbx : w1.heap[w.heap.size]? = some dcB := ((show Below (w.alloc dcB).heap.size (w.alloc dcB) w1 from hb1).block _ (by rw [HZ0.out]; omega)).trans HX0.out
    have HB2 := Lib.hid hb2
    have HT := Lib.hid (And.intro ha ht)
    unfold dcB at hbx
    obtain ⟨q0, q1, qf, ql⟩ := blk2 hbx
    have HBX := Lib.hid hbx
    clear hown hb1 hb2 HLX ha ht hbx
    by_cases he : er = 0
    · subst he
      have hm2 := HM.out
      rw [if_pos rfl] at hm2
      have HM2 := Lib.hid hm2
      clear HM hm2
      by_cases h6 : 600 < ts.length
      · have hd6 : decide ((600 : Int) < (ts.length : Int)) = true := decide_eq_true (by omega)
        have hd7 : decide (600 < ts.length) = true := decide_eq_true h6
        have hm3 := HM2.out
        rw [if_pos h6] at hm3
        have HM3 := Lib.hid hm3
        have HF := Lib.hid (dc_two HBX.out (.slice none 0 0) (.slice none 0 0))
        clear HM2 hm3
        go_wp2_with fail
        obtain ⟨f0, f1, -⟩ := HF.out
        refine bodyPost_ret (v := .tuple #[.agg #[.slice none 0 0, .slice none 0 0], .int .i64 0, .int .i64 3]) (by simp [results, Tryz.results16, go_sem, f0, f1]) rfl ?_
        rw [HM3.out]
        exact ⟨_, _, rfl, docZ_E _ _, below_two HB2.out _ _⟩
      · have hd6 : decide ((600 : Int) < (ts.length : Int)) = false := decide_eq_false (by omega)
        have hd7 : decide (600 < ts.length) = false := decide_eq_false h6
        have hm3 := HM2.out
        rw [if_neg h6] at hm3
        have HM3 := Lib.hid hm3
        have hsz : s.size ≤ 4000 := by omega
        have P0 := pv_start (z := s.size) HT.out.1 HT.out.2 hc (by omega) hsz (fun t ht => by
          have := List.all_eq_true.1 HSM.out t ht
          simpa using this)
        have HD := pDoc_any _ P0
        dsimp only at HD
        have HPO := Lib.hid P0
        have HBA := Lib.hid (HB2.out.alloc HB2.out.size (.cells #[.slice a ts.length cap, .int .i64 0, .int .i64 (s.size : Int), .int .i64 0, .int .i64 0, .int .i64 0] 93 (0, 0)))
        have HBX2 := Lib.hid ((Below.heap_alloc w1 (.cells #[.slice a ts.length cap, .int .i64 0, .int .i64 (s.size : Int), .int .i64 0, .int .i64 0, .int .i64 0] 93 (0, 0)) _ hlt).trans HBX.out)
        have HSA := Lib.hid (show (w1.alloc (.cells #[.slice a ts.length cap, .int .i64 0, .int .i64 (s.size : Int), .int .i64 0, .int .i64 0, .int .i64 0] 93 (0, 0))).heap.size = w1.heap.size + 1 by simp)
        generalize dcM s.size ⟨ts, 0, 0⟩ = RD at *
        obtain ⟨d, s3⟩ := RD
        dsimp only at HM3
        clear HM2 hm3 P0 HSM
        go_wp2_with fail
        refine HD.mono ?_
        rintro e w3 ⟨vo, vf, rfl, hdoc, p3⟩
        dsimp only at hdoc
        obtain ⟨oa, oc, hvo⟩ : ∃ oa oc, vo = .slice oa d.ops.length oc := by
          obtain ⟨vo', vf', e, h1, _⟩ := hdoc
          injection e with e
          have e' := congrArg Array.toList e
          simp at e'
          rw [e'.1]; exact h1.shape
        obtain ⟨fa, fc, hvf⟩ : ∃ fa fc, vf = .slice fa d.frags.length fc := by
          obtain ⟨vo', vf', e, _, h1⟩ := hdoc
          injection e with e
          have e' := congrArg Array.toList e
          simp at e'
          rw [e'.2]; exact h1.shape
        subst hvo hvf
        have hb3 : Below w.heap.size w w3 := HBA.out.trans (p3.2.mono (by have := HSA.out; omega) |>.below (Nat.le_of_lt hlt))
        have hx3 := (p3.2.block w.heap.size (by have := HSA.out; omega) (by show w.heap.size ≠ w1.heap.size; omega)).trans HBX2.out
        have HB3 := Lib.hid hb3
        obtain ⟨m, p, hbk, -, -, -⟩ := p3.1.bk
        obtain ⟨-, -, -, -, c4, c5, -⟩ := prCell hbk
        have hR3 := p3.1.lt
        dsimp only at c4 c5 hR3
        obtain ⟨r0, r1, rf, rl⟩ := blk2 hx3
        have HDC := Lib.hid (dc_two hx3 (.slice oa d.ops.length oc) (.slice fa d.frags.length fc))
        have HDE := Lib.hid hdoc
        have hne1 : w1.heap.size ≠ w.heap.size := by omega
        clear hb3 hx3 hbk p3 hdoc HD q0 q1 qf ql
        by_cases he3 : s3.er = 0
        · rw [he3] at c4
          have hm4 := HM3.out
          rw [if_pos he3] at hm4
          have HM4 := Lib.hid hm4
          have HDF := Lib.hid (dc_two HDC.out.2.2 (.slice oa d.ops.length oc) (.slice fa d.frags.length fc))
          clear hm4 HM3 he3
          go_wp2_with fail
          obtain ⟨f0, f1, -⟩ := HDF.out
          refine bodyPost_ret (v := .tuple #[.agg #[.slice oa d.ops.length oc, .slice fa d.frags.length fc], .int .i64 0, .int .i64 0]) (by simp [results, Tryz.results16, go_sem, f0, f1]) rfl ?_
          rw [HM4.out]
          refine ⟨_, _, rfl, ?_, below_two (W := (w3.setCell ⟨w.heap.size, 0, none⟩ _).setCell ⟨w.heap.size, 1, none⟩ _) (below_two HB3.out _ _) _ _⟩
          refine DocE.step (fun b hd => ⟨by have := hd.1; have := HSA.out; omega, by simp only [World.setCell, Array.size_modify]; exact hd.2⟩) (fun b o hd => World.cell?_of_block (a := ⟨b, o, none⟩) ?_) HDE.out
          have hbw : b ≠ w.heap.size := by have := hd.1; have := HSA.out; omega
          show ((((w3.setCell ⟨w.heap.size, 0, none⟩ _).setCell ⟨w.heap.size, 1, none⟩ _).setCell ⟨w.heap.size, 0, none⟩ _).setCell ⟨w.heap.size, 1, none⟩ _).heap[b]? = _
          rw [Below.heap_setCell _ _ _ _ hbw, Below.heap_setCell _ _ _ _ hbw, Below.heap_setCell _ _ _ _ hbw, Below.heap_setCell _ _ _ _ hbw]
        · have hne : ((s3.er : Int) != 0) = true := by simp; omega
          have hm4 := HM3.out
          rw [if_neg he3] at hm4
          have HM4 := Lib.hid hm4
          have HDF := Lib.hid (dc_two HDC.out.2.2 (.slice none 0 0) (.slice none 0 0))
          clear hm4 HM3 he3
          go_upto_region 11 with fail
          go_region
          all_goals
            go_wp2_with fail
            obtain ⟨f0, f1, -⟩ := HDF.out
            refine bodyPost_ret (v := .tuple #[.agg #[.slice none 0 0, .slice none 0 0], .int .i64 (s3.wr : Int), .int .i64 (s3.er : Int)]) (by simp [results, Tryz.results16, go_sem, f0, f1]) rfl ?_
            rw [HM4.out]
            refine ⟨_, _, rfl, docZ_E _ _, ?_⟩
            first
              | exact below_drewN (below_two (W := (w3.setCell ⟨w.heap.size, 0, none⟩ _).setCell ⟨w.heap.size, 1, none⟩ _) (below_two HB3.out _ _) _ _) _
              | exact below_two (W := World.drewN ((w3.setCell ⟨w.heap.size, 0, none⟩ _).setCell ⟨w.heap.size, 1, none⟩ _) _) (below_drewN (below_two HB3.out _ _) _) _ _
    · have hne : ((er : Int) != 0) = true := by simp; omega
      have hm2 := HM.out
      rw [if_neg he] at hm2
      have HM2 := Lib.hid hm2
      have HF := Lib.hid (dc_two HBX.out (.slice none 0 0) (.slice none 0 0))
      clear HM hm2 he
      go_wp2_with fail
      obtain ⟨f0, f1, -⟩ := HF.out
      refine bodyPost_ret (v := .tuple #[.agg #[.slice none 0 0, .slice none 0 0], .int .i64 (at_ : Int), .int .i64 (er : Int)]) (by simp [results, Tryz.results16, go_sem, f0, f1]) rfl ?_
      rw [HM2.out]
      exact ⟨_, _, rfl, docZ_E _ _, below_two HB2.out _ _⟩

end Go.Proofs.YtkfllppggjhhmaaGreatDoor
/-
  What print.Doc answers.
-/
namespace Go.Proofs.YtkfllppggjhhmaaGreatDoor
open Go.RowKit
set_option linter.unusedVariables false

theorem docT_len (x : DocT) : (docT x).length ≤ 4000 := by
  have h := docW_k (I := Cap 4000) (cap_wr 4000) x ⟨[], 4000, false⟩ (Nat.le_refl _)
  unfold Cap at h
  unfold docT outW
  split
  · exact Nat.zero_le _
  · omega
theorem parseM_at {s : List UInt8} {d : DocT} {a : Nat} (h : parseM s = (d, a, 0)) : a = 0 := by
  unfold parseM at h
  split at h
  · injection h with _ h; injection h with _ h; cases h
  · split at h
    · split at h
      · injection h with _ h; injection h with _ h; cases h
      · split at h
        · injection h with _ h; injection h with h _; exact h.symm
        · rename_i h2
          injection h with _ h; injection h with _ h
          exact absurd h h2
    · rename_i h2
      injection h with _ h; injection h with _ h
      exact absurd h h2

/-- What Doc answers. -/
def PDocIs (x : DocT) (w : World) (e : Ending) (w' : World) : Prop := ∃ s, e = .returned (.string ⟨s.toArray⟩) ∧ PrintIs x s ∧ Below w.heap.size w w'

set_option maxHeartbeats 4000000 in
set_option maxRecDepth 100000 in
theorem printDoc_any {n : Nat} {D : Nat → Prop} {x : DocT} {v : Value} (w : World) (hn : n < 100) (hE : DocE w D x v) (hdp : dpD n x = true) (hD : ∀ b, D b → b < w.heap.size) (hm : ∃ m, w.cell? ⟨0, 0, none⟩ = some (.int .i64 m)) (hsm : tokSmall (lexP (docT x)).1 = true) :
    Calls Tryz.prog 14 #[v] w (PDocIs x w) := by
  have hE0 := hE
  obtain ⟨vo, vf, rfl, ho, hf⟩ := hE
  obtain ⟨vo, co, rfl⟩ := ho.shape
  obtain ⟨vf, cf, rfl⟩ := hf.shape
  have HBX := Lib.hid (show (w.alloc (.cells #[.slice vo x.ops.length co, .slice vf x.frags.length cf] 25)).heap[w.heap.size]? = some (.cells #[.slice vo x.ops.length co, .slice vf x.frags.length cf] 25 (0, 0)) from heap_alloc_new _ _)
  have hsz : (w.alloc (.cells #[.slice vo x.ops.length co, .slice vf x.frags.length cf] 25)).heap.size = w.heap.size + 1 := by simp
  have HB0 := Lib.hid ((Below.refl w.heap.size w).alloc (Nat.le_refl _) (.cells #[.slice vo x.ops.length co, .slice vf x.frags.length cf] 25))
  have HV := wv_new (w.alloc (.cells #[.slice vo x.ops.length co, .slice vf x.frags.length cf] 25)) 4000 (by decide) (at_maxlen hm HB0.out)
  have HB1 := Lib.hid (HB0.out.alloc (by rw [hsz]; omega) (.cells #[.pointer none, .slice none 0 0, .int .i64 ((4000 : Nat) : Int), .bool false, .int .i64 0] 83))
  rw [hsz] at HV
  have HDE := Lib.hid hE0
  have HDD := Lib.hid hD
  have hcap := docW_k (I := Cap 4000) (cap_wr 4000) x ⟨[], 4000, false⟩ (Nat.le_refl _)
  have HC := pDocW_any (n := n) (D := D) _ hn rfl HV (DocE.step (fun _ h => h) (fun b o hb => World.cell?_of_block (a := ⟨b, o, none⟩) (HB1.out.block b (hD b hb))) hE0) hdp (fun b hb => by have := hD b hb; omega) (by unfold Cap at hcap; omega)
  have HTL := Lib.hid (docT_len x)
  have HT := Lib.hid (show docT x = outW (docW x ⟨[], 4000, false⟩) from rfl)
  have HSM := Lib.hid hsm
  have HPI := Lib.hid (show ∀ s, (parseM (docT x) = (x, 0, 0) → s = docT x) → (parseM (docT x) ≠ (x, 0, 0) → s = []) → PrintIs x s from fun s a b => ⟨a, b⟩)
  have HBR := Lib.hid ((HB0.out.alloc (by rw [hsz]; omega) (.cells #[.pointer none, .slice none 0 0, .int .i64 ((4000 : Nat) : Int), .bool false, .int .i64 0] 83)))
  generalize docW x ⟨[], 4000, false⟩ = s2 at *
  generalize docT x = TX at *
  clear hE0 ho hf hdp hD hm hsm HV hcap HB0
  rw [show ((4000 : Nat) : Int) = 4000 from rfl] at HC HB1 HBR
  have HX1 := Lib.hid (show ((w.alloc (.cells #[.slice vo x.ops.length co, .slice vf x.frags.length cf] 25)).alloc (.cells #[.pointer none, .slice none 0 0, .int .i64 4000, .bool false, .int .i64 0] 83)).heap[w.heap.size]? = some (.cells #[.slice vo x.ops.length co, .slice vf x.frags.length cf] 25 (0, 0)) from (Below.heap_alloc _ _ _ (by rw [hsz]; omega)).trans HBX.out)
  clear HBX hsz
  go_enter Tryz.func14, Tryz.ntmps14
  go_wp2_with fail
  refine HC.mono ?_
  rintro e w2 ⟨rfl, hk2⟩
  have HXT := pText_any w2 hk2.1
  rw [← HT.out] at HXT
  have HB2 := Lib.hid (HB1.out.trans (hk2.2.1.mono (by omega)))
  have HX2 := Lib.hid ((hk2.2.1.block w.heap.size (by omega)).trans HX1.out)
  have hs2 := hk2.1.hN
  clear hk2 HC
  go_wp2_with fail
  refine HXT.mono ?_
  rintro e w3 ⟨rfl, hb3⟩
  have HB3 := Lib.hid (HB2.out.trans (hb3.mono (by omega)))
  have HX3 := Lib.hid ((hb3.block w.heap.size (by omega)).trans HX2.out)
  have hs3 := hb3.size
  have HP := parse_any ⟨TX.toArray⟩ w3 (by have := HTL.out; show TX.length ≤ _; omega) HSM.out
  have HP : Calls Tryz.prog 16 #[.string ⟨TX.toArray⟩] w3 (ParseIs w3 (parseM TX)) := HP
  have HAT := Lib.hid (fun d a (h : parseM TX = (d, a, 0)) => parseM_at h)
  generalize parseM TX = PR at *
  obtain ⟨pd, pa, pe⟩ := PR
  clear hb3 HXT
  go_wp2_with fail
  refine HP.mono ?_
  rintro e w4 ⟨po, pf, rfl, hdoc, hb4⟩
  dsimp only at hdoc
  obtain ⟨oa, oc, rfl⟩ : ∃ oa oc, po = .slice oa pd.ops.length oc := by
    obtain ⟨vo', vf', e, h1, _⟩ := hdoc
    injection e with e
    have e' := congrArg Array.toList e
    simp at e'
    rw [e'.1]; exact h1.shape
  obtain ⟨fa, fc, rfl⟩ : ∃ fa fc, pf = .slice fa pd.frags.length fc := by
    obtain ⟨vo', vf', e, _, h1⟩ := hdoc
    injection e with e
    have e' := congrArg Array.toList e
    simp at e'
    rw [e'.2]; exact h1.shape
  have HB4 := Lib.hid (HB3.out.trans (hb4.mono (by omega)))
  have HX4 := Lib.hid ((hb4.block w.heap.size (by omega)).trans HX3.out)
  have hs4 := hb4.size
  have HDOC := Lib.hid hdoc
  obtain ⟨p0, p1, pf, pl⟩ := bk2 HX4.out
  clear hdoc hb4 HP
  have HB5 := Lib.hid (HB4.out.alloc (by have := HB4.out.size; omega) (.cells #[.slice oa pd.ops.length oc, .slice fa pd.frags.length fc] 25))
  by_cases he : pe = 0
  · subst he
    have HPA := Lib.hid (HAT.out pd pa rfl)
    have hb5 : w4.heap.size = w4.heap.size := rfl
    have HC2 := sameDoc_any (x := x) (y := pd) (w4.alloc (.cells #[.slice oa pd.ops.length oc, .slice fa pd.frags.length fc] 25)) (D1 := D) (D2 := fun b => w3.heap.size ≤ b ∧ b < w4.heap.size) (fun b hb => by have := HDD.out b hb; simp; omega) (fun b hb => by have := hb.2; simp; omega)
      (DocE.step (fun _ h => h) (fun b o hb => World.cell?_of_block (a := ⟨b, o, none⟩) (HB5.out.block b (HDD.out b hb))) HDE.out) (DocE.step (fun _ h => h) (fun b o hb => World.cell?_of_block (a := ⟨b, o, none⟩) (Below.heap_alloc _ _ _ hb.2)) HDOC.out)
    clear hb5
    go_wp2_with fail
    refine HC2.mono ?_
    rintro e w5 ⟨r, rfl, hr, hb6⟩
    have HB6 := Lib.hid (HB5.out.trans (hb6.mono (by simp; omega)))
    clear hb6 HC2
    cases r with
    | true =>
      have HXY := Lib.hid (hr.1 rfl)
      clear hr
      go_wp2_with fail
      go_ret
      refine ⟨TX, rfl, HPI.out _ (fun _ => rfl) (fun h => absurd (by rw [HXY.out, HPA.out]) h), HB6.out⟩
    | false =>
      have HXY := Lib.hid (show ¬ x = pd from fun h => by have := hr.2 h; cases this)
      clear hr
      go_wp2_with fail
      go_ret
      refine ⟨[], rfl, HPI.out _ (fun h => absurd (congrArg (fun z => z.1) h).symm HXY.out) (fun _ => rfl), HB6.out⟩
  · have hne : ((pe : Int) != 0) = true := by simp; omega
    have hne2 : ((pe : Int) == 0) = false := by rw [beq_eq_false_iff_ne]; omega
    have HNE := Lib.hid he
    clear he
    go_wp2_with fail
    go_ret
    refine ⟨[], rfl, HPI.out _ (fun h => absurd (congrArg (fun z => z.2.2) h) HNE.out) (fun _ => rfl), HB5.out⟩

end Go.Proofs.YtkfllppggjhhmaaGreatDoor
/-
  print's laws: documents that lie in rows of one record; the document's example.
-/
namespace Go.Proofs.YtkfllppggjhhmaaGreatDoor
open Go.RowKit
set_option linter.unusedVariables false

/-- A row of one record. -/
theorem row_one1 {α : Type} {E : ElemR α} {sz : Nat} {W : World} {D : Nat → Prop} {x : α} {g : Nat} {cs : List Value} {T : TypeId} (hb : W.heap[g]? = some (.cells cs.toArray T (0, 0))) (hl : cs.length = sz) (hD : D g) (hE : E W D x cs) : RowD E sz W D [x] (.slice (some ⟨g, 0, none⟩) 1 1) := by
  refine ⟨_, 1, rfl, (show 1 ≤ 2000000 by decide), Nat.le_refl 1, fun _ => ⟨g, 0, rfl, hD, fun i y hy => ?_⟩⟩
  match i, hy with
  | 0, hy =>
    simp at hy
    subst hy
    refine ⟨cs, hl, fun k u hu => ?_, hE⟩
    rw [show 0 + 0 * sz + k = k by omega, Lib.cell_of_heap hb k, ← hu]
    simp
  | i + 1, hy => simp at hy

theorem docOne_small : tokSmall (lexP (docT docOne)).1 = true := by kernel_rfl
theorem docOne_deep : dpD 2 docOne = true := by kernel_rfl

set_option maxHeartbeats 4000000 in
set_option maxRecDepth 100000 in
theorem printAwake (w : World) (hm : ∃ m, w.cell? ⟨0, 0, none⟩ = some (.int .i64 m)) : Calls Tryz.prog 13 #[] w (TrueBelow w) := by
  have HP := parse_any ⟨#[123, 32, 97, 32, 125]⟩ w (by decide) (by kernel_rfl)
  have HP : Calls Tryz.prog 16 #[.string ⟨#[123, 32, 97, 32, 125]⟩] w (ParseIs w (parseM [123, 32, 97, 32, 125])) := HP
  rw [pm_blank] at HP
  have HMX := Lib.hid hm
  clear hm
  go_enter Tryz.func13, Tryz.ntmps13
  go_wp2_with fail
  refine HP.mono ?_
  rintro e w1 ⟨po, pf, rfl, hdoc, hb1⟩
  dsimp only at hdoc
  obtain ⟨oa, oc, rfl⟩ : ∃ oa oc, po = .slice oa docOne.ops.length oc := by
    obtain ⟨vo', vf', e, h1, _⟩ := hdoc
    injection e with e
    have e' := congrArg Array.toList e
    simp at e'
    rw [e'.1]; exact h1.shape
  obtain ⟨fa, fc, rfl⟩ : ∃ fa fc, pf = .slice fa docOne.frags.length fc := by
    obtain ⟨vo', vf', e, _, h1⟩ := hdoc
    injection e with e
    have e' := congrArg Array.toList e
    simp at e'
    rw [e'.2]; exact h1.shape
  have HB1 := Lib.hid (hb1.alloc hb1.size (.cells #[.slice oa docOne.ops.length oc, .slice fa docOne.frags.length fc] 25))
  have HC := printDoc_any (n := 2) (D := fun b => w.heap.size ≤ b ∧ b < w1.heap.size) (x := docOne) (w1.alloc (.cells #[.slice oa docOne.ops.length oc, .slice fa docOne.frags.length fc] 25)) (by decide) (DocE.step (fun _ h => h) (fun b o hb => World.cell?_of_block (a := ⟨b, o, none⟩) (Below.heap_alloc _ _ _ hb.2)) hdoc) docOne_deep (fun b hb => by have := hb.2; simp; omega) (at_maxlen HMX.out HB1.out) docOne_small
  have hsz := hb1.size
  clear hdoc hb1 HP
  go_wp2_with fail
  refine HC.mono ?_
  rintro e w2 ⟨s, rfl, hs, hb2⟩
  obtain rfl : s = [113, 117, 101, 114, 121, 123, 97, 125] := (hs.1 pm_back).trans pm_one
  have HB2 := Lib.hid (HB1.out.trans (hb2.mono (by simp; omega)))
  clear hb2 hs HC
  go_wp2_with fail
  go_ret
  exact ⟨rfl, HB2.out⟩

end Go.Proofs.YtkfllppggjhhmaaGreatDoor
/-
  A world in which the two listed tables lie as their initialisers lay them.
-/
namespace Go.Proofs.YtkfllppggjhhmaaGreatDoor
open Go.ChangeShapes Go.WideShapes Go.ChangeAt Go.RowKit

theorem laidOwn : ownKnob Tryz.prog.godebug = none := by kernel_rfl
def firstCells : Array Value := (Go.Pinned.utf8FirstZ.map fun (n : Nat) => Value.int .u8 n).toArray
def acceptCells : Array Value := #[.int .u8 128, .int .u8 191, .int .u8 160, .int .u8 191, .int .u8 128, .int .u8 159, .int .u8 144, .int .u8 191, .int .u8 128, .int .u8 143, .int .u8 0, .int .u8 0, .int .u8 0, .int .u8 0, .int .u8 0, .int .u8 0, .int .u8 0, .int .u8 0, .int .u8 0, .int .u8 0, .int .u8 0, .int .u8 0, .int .u8 0, .int .u8 0, .int .u8 0, .int .u8 0, .int .u8 0, .int .u8 0, .int .u8 0, .int .u8 0, .int .u8 0, .int .u8 0]
def layCells (cs : Array Value) : Obj → Obj
  | .cells _ t frozen => .cells cs t frozen
  | o => o
noncomputable def laidWorld (os : Os) : World :=
  { World.holding Tryz.prog os ⟨#[], #[], []⟩ with heap := ((World.holding Tryz.prog os ⟨#[], #[], []⟩).heap.modify 1 (layCells firstCells)).modify 2 (layCells acceptCells) }

end Go.Proofs.YtkfllppggjhhmaaGreatDoor
