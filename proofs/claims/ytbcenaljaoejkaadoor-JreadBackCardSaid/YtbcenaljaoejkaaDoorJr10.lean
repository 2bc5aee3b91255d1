/-
  jread: what whole, read and Read answer.
-/
import Derived.Test.YtbcenaljaoejkaaDoorJr9
import Derived.Defers
import Derived.Recover
namespace Go.Proofs.YtbcenaljaoejkaaDoor
open Go.RowKit

theorem RdD.drewN {w : World} {D : Nat → Prop} {n : Nat} {x : JV} {v : Value} (h : RdD w D n x v) (m : Nat) : RdD (w.drewN m) D n x v := RdD.step (w := w) (w' := w.drewN m) (fun _ h => h) (fun _ _ _ => rfl) h

/-- What whole answers: the value, or it ends with the error. -/
def WhIs (R n : Nat) (w : World) (o : Option JV × Nat) (e : Ending) (w' : World) : Prop :=
  Aw R w.heap.size w w' ∧ match o.1 with
    | some x => ∃ v, e = .returned v ∧ RdD w' (fun b => w.heap.size ≤ b ∧ b < w'.heap.size) n x v
    | none => e = .panicked [pe o.2]

set_option maxHeartbeats 2000000 in
set_option maxRecDepth 100000 in
theorem whole_any' (R : Nat) (s : ByteArray) (w : World) (h : Rdr w R s 0 false false) (hs : s.size ≤ 4000) :
    Calls Tryd.prog 23 #[.pointer (some ⟨R, 0, none⟩)] w (WhIs R (s.size + 1) w (readP s.data.toList)) := by
  have hlen : s.data.toList.length = s.size := rfl
  have HV := value_any R s hs (s.size + 1) 1 (by omega) 0 false false (w.alloc (.cells #[.int .i64 0, .string ⟨#[]⟩, .slice none 0 0, .slice none 0 0] 26)) (h.alloc _) (Nat.zero_le _) (by rw [len_drop]; omega)
  rw [List.drop_zero] at HV
  have hRlt := h.lt
  have hne : R ≠ w.heap.size := by omega
  have HRP := Lib.hid (show readP s.data.toList = match pv (s.size + 1) 1 false false s.data.toList with
    | none => (none, 2)
    | some (x, r, d, t) => if 0 < (sk r).length then (none, 2) else if d then (none, 4) else if t then (none, 5) else (some x, 0) by
    unfold readP
    rw [if_neg (by omega), hlen]
    rfl)
  clear h
  cases ho : pv (s.size + 1) 1 false false s.data.toList with
  | none =>
    rw [ho] at HV HRP
    clear ho
    go_enter Tryd.func23, Tryd.ntmps23
    go_wp2_with fail
    refine HV.mono ?_
    rintro e w1 ⟨rfl, ha1⟩
    refine ⟨rfl, ?_⟩
    rw [HRP.out]
    exact ⟨((Aw.refl R w.heap.size w).alloc (Nat.le_refl _) _).trans (ha1.mono (by simp)), rfl⟩
  | some o =>
    obtain ⟨x, r, d, t⟩ := o
    rw [ho] at HV HRP
    clear ho
    go_enter Tryd.func23, Tryd.ntmps23
    go_wp2_with fail
    refine HV.mono ?_
    rintro e w1 ⟨v, rfl, hR, q, hq, hl, hr, ha1⟩
    obtain ⟨an, cn, ap, cp, rfl⟩ := hR.shape
    have ha01 : Aw R w.heap.size w w1 := ((Aw.refl R w.heap.size w).alloc (Nat.le_refl _) _).trans (ha1.mono (by simp))
    have hx1 : Bx w1 w.heap.size := (Bx.new w).keep (ha1.block _ (by simp) hne.symm)
    have hz1 := hx1.lt
    -- the value's own box
    have hrA := hr.alloc (.cells #[.int .i64 x.k, .string x.s, .slice an x.ns.length cn, .slice ap x.ps.length cp] 26)
    have HS := skip_any R s q d t _ hrA hq hs
    rw [hl] at HS
    have HL := Lib.hid hl
    clear hl
    have HX1 := Lib.hid hx1
    clear hx1
    go_wp2_with fail
    refine HS.mono ?_
    rintro e w2 ⟨rfl, q2, hq2, hl2, hr2, ha2⟩
    have hzA : (w1.alloc (.cells #[.int .i64 x.k, .string x.s, .slice an x.ns.length cn, .slice ap x.ps.length cp] 26)).heap.size = w1.heap.size + 1 := by simp
    have hx2 : Bx w2 w.heap.size := (HX1.out.keep (Below.heap_alloc _ _ _ hz1)).keep (ha2.block _ (by rw [hzA]; omega) hne.symm)
    have haA : Aw R w.heap.size w w2 := ((ha01.alloc (by omega) _).trans (ha2.mono (by rw [hzA]; omega)))
    have hv : ∀ j u, [Value.int .i64 x.k, .string x.s, .slice an x.ns.length cn, .slice ap x.ps.length cp][j]? = some u → w2.cell? ⟨w1.heap.size, j, none⟩ = some u := fun j u hu => by
      rw [ha2.cell (by rw [hzA]; omega) (by omega)]
      have := cell_four_new w1 (.int .i64 x.k) (.string x.s) (.slice an x.ns.length cn) (.slice ap x.ps.length cp) 26 j u hu
      rw [Go.WideShapes.add_plain, Nat.zero_add] at this
      exact this
    have v0 := hv 0 _ rfl
    have v1 := hv 1 _ rfl
    have v2 := hv 2 _ rfl
    have v3 := hv 3 _ rfl
    have hRd2 : RdD w2 (fun b => w.heap.size + 1 ≤ b ∧ b < w2.heap.size) (s.size + 1) x (.agg #[.int .i64 x.k, .string x.s, .slice an x.ns.length cn, .slice ap x.ps.length cp]) := RdD.step (fun b hd => ⟨by have h1 := hd.1; simp at h1; omega, by have h1 := ha2.size; rw [hzA] at h1; have h2 := hd.2; omega⟩) (fun b o hd => by
      have h1 := hd.1
      simp at h1
      rw [ha2.cell (by rw [hzA]; have := hd.2; omega) (by omega)]
      exact World.cell?_of_block (a := ⟨b, o, none⟩) (Below.heap_alloc _ _ _ hd.2)) hR
    have HRd2 := Lib.hid hRd2
    have HR2 := Lib.hid hr2
    have HL2 := Lib.hid hl2
    have hlq : (sk r).length = s.size - q2 := by rw [← hl2, len_drop]
    have HLQ := Lib.hid hlq
    obtain ⟨c0, c1, c2, c3, fz⟩ := hr2
    obtain ⟨k0, k1, k2, k3, kz⟩ := hx2
    clear hl2 hRd2 hR hv hlq hrA hr HS HV
    by_cases hlt : q2 < s.size
    · have hd1 : decide ((q2 : Int) < s.size) = true := decide_eq_true (by omega)
      have HE := Lib.hid (show readP s.data.toList = (none, 2) by rw [HRP.out, if_pos (by rw [HLQ.out]; omega)])
      go_wp2_with fail
      go_quiet (fail)
      go_wp2_with fail
      refine (fail_any 2 _).mono ?_
      rintro e w4 ⟨rfl, rfl⟩
      refine ⟨rfl, ?_⟩
      rw [HE.out]
      exact ⟨haA.drewN _, rfl⟩
    · have hd1 : decide ((q2 : Int) < s.size) = false := decide_eq_false (by omega)
      have HE := Lib.hid (show readP s.data.toList = if d then (none, 4) else if t then (none, 5) else (some x, 0) by rw [HRP.out, if_neg (by rw [HLQ.out]; omega)])
      cases d with
      | true =>
        go_wp2_with fail
        go_quiet (fail)
        go_wp2_with fail
        refine (fail_any 4 _).mono ?_
        rintro e w4 ⟨rfl, rfl⟩
        refine ⟨rfl, ?_⟩
        rw [HE.out]
        exact ⟨haA.drewN _, rfl⟩
      | false =>
        cases t with
        | true =>
          go_wp2_with fail
          go_quiet (fail)
          go_wp2_with fail
          refine (fail_any 5 _).mono ?_
          rintro e w4 ⟨rfl, rfl⟩
          refine ⟨rfl, ?_⟩
          rw [HE.out]
          exact ⟨haA.drewN _, rfl⟩
        | false =>
          go_wp2_with fail
          go_quiet (fail)
          go_wp2_with fail
          refine bodyPost_ret (v := .agg #[.int .i64 x.k, .string x.s, .slice an x.ns.length cn, .slice ap x.ps.length cp]) (by simp [results, Tryd.results23, go_sem, k0, k1, k2, k3]) rfl ?_
          rw [HE.out]
          exact ⟨(haA.drewN _).four (Nat.le_refl _) _ _ _ _, _, rfl, RdD.step (fun b hd => ⟨by omega, by rw [size_four]; exact hd.2⟩) (fun b o hd => World.cell?_of_block (a := ⟨b, o, none⟩) (heap_four _ _ _ _ _ _ b (by omega))) (HRd2.out.drewN _)⟩

end Go.Proofs.YtbcenaljaoejkaaDoor
