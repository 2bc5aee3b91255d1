/-
  jread: what whole, read and Read answer.
-/
import Derived.Test.YtbcenaljaoejkaaDoorJr9
import Derived.Defers
import Derived.Recover
namespace Go.Proofs.YtbcenaljaoejkaaDoor
open Go.RowKit

theorem RdD.drewN {w : World} {D : Nat → Prop} {n : Nat} {x : JV} {v : Value} (h : RdD w D n x v) (m : Nat) : RdD (w.drewN m) D n x v := RdD.step (w := w) (w' := w.drewN m) (fun _ h => h) (fun _ _ _ => rfl) h

/-- What whole answers: the value, or it ends with the error. -/
def WhIs (R n : Nat) (w : World) (o : Option JV × Nat) (e : Ending) (w' : World) : Prop :=
  Aw R w.heap.size w w' ∧ match o.1 with
    | some x => ∃ v, e = .returned v ∧ RdD w' (fun b => w.heap.size ≤ b ∧ b < w'.heap.size) n x v
    | none => e = .panicked [pe o.2]

set_option maxHeartbeats 2000000 in
set_option maxRecDepth 100000 in
theorem whole_any' (R : Nat) (s : ByteArray) (w : World) (h : Rdr w R s 0 false false) (hs : s.size ≤ 4000) :
    Calls Tryd.prog 23 #[.pointer (some ⟨R, 0, none⟩)] w (WhIs R (s.size + 1) w (readP s.data.toList)) := by
  have hlen : s.data.toList.length = s.size := rfl
  have HV := value_any R s hs (s.size + 1) 1 (by omega) 0 false false (w.alloc (.cells #[.int .i64 0, .string ⟨#[]⟩, .slice none 0 0, .slice none 0 0] 26)) (h.alloc _) (Nat.zero_le _) (by rw [len_drop]; omega)
  rw [List.drop_zero] at HV
  have hRlt := h.lt
  have hne : R ≠ w.heap.size := by omega
  have HRP := Lib.hid (show readP s.data.toList = match pv (s.size + 1) 1 false false s.data.toList with
    | none => (none, 2)
    | some (x, r, d, t) => if 0 < (sk r).length then (none, 2) else if d then (none, 4) else if t then (none, 5) else (some x, 0) by
    unfold readP
    rw [if_neg (by omega), hlen]
    rfl)
  clear h
  cases ho : pv (s.size + 1) 1 false false s.data.toList with
  | none =>
    rw [ho] at HV HRP
    clear ho
    go_enter Tryd.func23, Tryd.ntmps23
    go_wp2_with fail
    refine HV.mono ?_
    rintro e w1 ⟨rfl, ha1⟩
    refine ⟨rfl, ?_⟩
    rw [HRP.out]
    exact ⟨((Aw.refl R w.heap.size w).alloc (Nat.le_refl _) _).trans (ha1.mono (by simp)), rfl⟩
  | some o =>
    obtain ⟨x, r, d, t⟩ := o
    rw [ho] at HV HRP
    clear ho
    go_enter Tryd.func23, Tryd.ntmps23
    go_wp2_with fail
    refine HV.mono ?_
    rintro e w1 ⟨v, rfl, hR, q, hq, hl, hr, ha1⟩
    obtain ⟨an, cn, ap, cp, rfl⟩ := hR.shape
    have ha01 : Aw R w.heap.size w w1 := ((Aw.refl R w.heap.size w).alloc (Nat.le_refl _) _).trans (ha1.mono (by simp))
    have hx1 : Bx w1 w.heap.size := (Bx.new w).keep (ha1.block _ (by simp) hne.symm)
    have hz1 := hx1.lt
    -- the value's own box
    have hrA := hr.alloc (.cells #[.int .i64 x.k, .string x.s, .slice an x.ns.length cn, .slice ap x.ps.length cp] 26)
    have HS := skip_any R s q d t _ hrA hq hs
    rw [hl] at HS
    have HL := Lib.hid hl
    clear hl
    have HX1 := Lib.hid hx1
    clear hx1
    go_wp2_with fail
    refine HS.mono ?_
    rintro e w2 ⟨rfl, q2, hq2, hl2, hr2, ha2⟩
    have hzA : (w1.alloc (.cells #[.int .i64 x.k, .string x.s, .slice an x.ns.length cn, .slice ap x.ps.length cp] 26)).heap.size = w1.heap.size + 1 := by simp
    have hx2 : Bx w2 w.heap.size := (HX1.out.keep (Below.heap_alloc _ _ _ hz1)).keep (ha2.block _ (by rw [hzA]; omega) hne.symm)
    have haA : Aw R w.heap.size w w2 := ((ha01.alloc (by omega) _).trans (ha2.mono (by rw [hzA]; omega)))
    have hv : ∀ j u, [Value.int .i64 x.k, .string x.s, .slice an x.ns.length cn, .slice ap x.ps.length cp][j]? = some u → w2.cell? ⟨w1.heap.size, j, none⟩ = some u := fun j u hu => by
      rw [ha2.cell (by rw [hzA]; omega) (by omega)]
      have := cell_four_new w1 (.int .i64 x.k) (.string x.s) (.slice an x.ns.length cn) (.slice ap x.ps.length cp) 26 j u hu
      rw [Go.WideShapes.add_plain, Nat.zero_add] at this
      exact this
    have v0 := hv 0 _ rfl
    have v1 := hv 1 _ rfl
    have v2 := hv 2 _ rfl
    have v3 := hv 3 _ rfl
    have hRd2 : RdD w2 (fun b => w.heap.size + 1 ≤ b ∧ b < w2.heap.size) (s.size + 1) x (.agg #[.int .i64 x.k, .string x.s, .slice an x.ns.length cn, .slice ap x.ps.length cp]) := RdD.step (fun b hd => ⟨by have h1 := hd.1; simp at h1; omega, by have h1 := ha2.size; rw [hzA] at h1; have h2 := hd.2; omega⟩) (fun b o hd => by
      have h1 := hd.1
      simp at h1
      rw [ha2.cell (by rw [hzA]; have := hd.2; omega) (by omega)]
      exact World.cell?_of_block (a := ⟨b, o, none⟩) (Below.heap_alloc _ _ _ hd.2)) hR
    have HRd2 := Lib.hid hRd2
    have HR2 := Lib.hid hr2
    have HL2 := Lib.hid hl2
    have hlq : (sk r).length = s.size - q2 := by rw [← hl2, len_drop]
    have HLQ := Lib.hid hlq
    obtain ⟨c0, c1, c2, c3, fz⟩ := hr2
    obtain ⟨k0, k1, k2, k3, kz⟩ := hx2
    clear hl2 hRd2 hR hv hlq hrA hr HS HV
    by_cases hlt : q2 < s.size
    · have hd1 : decide ((q2 : Int) < s.size) = true := decide_eq_true (by omega)
      have HE := Lib.hid (show readP s.data.toList = (none, 2) by rw [HRP.out, if_pos (by rw [HLQ.out]; omega)])
      go_wp2_with fail
      go_quiet (fail)
      go_wp2_with fail
      refine (fail_any 2 _).mono ?_
      rintro e w4 ⟨rfl, rfl⟩
      refine ⟨rfl, ?_⟩
      rw [HE.out]
      exact ⟨haA.drewN _, rfl⟩
    · have hd1 : decide ((q2 : Int) < s.size) = false := decide_eq_false (by omega)
      have HE := Lib.hid (show readP s.data.toList = if d then (none, 4) else if t then (none, 5) else (some x, 0) by rw [HRP.out, if_neg (by rw [HLQ.out]; omega)])
      cases d with
      | true =>
        go_wp2_with fail
        go_quiet (fail)
        go_wp2_with fail
        refine (fail_any 4 _).mono ?_
        rintro e w4 ⟨rfl, rfl⟩
        refine ⟨rfl, ?_⟩
        rw [HE.out]
        exact ⟨haA.drewN _, rfl⟩
      | false =>
        cases t with
        | true =>
          go_wp2_with fail
          go_quiet (fail)
          go_wp2_with fail
          refine (fail_any 5 _).mono ?_
          rintro e w4 ⟨rfl, rfl⟩
          refine ⟨rfl, ?_⟩
          rw [HE.out]
          exact ⟨haA.drewN _, rfl⟩
        | false =>
          go_wp2_with fail
          go_quiet (fail)
          go_wp2_with fail
          refine bodyPost_ret (v := .agg #[.int .i64 x.k, .string x.s, .slice an x.ns.length cn, .slice ap x.ps.length cp]) (by simp [results, Tryd.results23, go_sem, k0, k1, k2, k3]) rfl ?_
          rw [HE.out]
          exact ⟨(haA.drewN _).four (Nat.le_refl _) _ _ _ _, _, rfl, RdD.step (fun b hd => ⟨by omega, by rw [size_four]; exact hd.2⟩) (fun b o hd => World.cell?_of_block (a := ⟨b, o, none⟩) (heap_four _ _ _ _ _ _ b (by omega))) (HRd2.out.drewN _)⟩

end Go.Proofs.YtbcenaljaoejkaaDoor

/-
  jread: what read and Read answer.
-/
namespace Go.Proofs.YtbcenaljaoejkaaDoor
open Go.RowKit

/-- The closure that recovers, of a call that returns: nothing. -/
theorem catch_idle (p q : Addr) (w : World) :
    CallsD Tryd.prog 21 #[.pointer (some p), .pointer (some q)] .returning w fun e u' w' => e = .returned (.tuple #[]) ∧ u' = .returning ∧ w = w' := by
  refine callsD_of_wpS Tryd.func21 rfl fun c₀ cs hu => ?_
  apply wpS_seq
  apply wpS_region
  simp [wpOpsS, go_sem, recoverD, hu, Tryd.ntmps21, Exit.thenS]
  refine wpS_of_wp ?_
  go_wp2_with fail
  cases c₀
  simp_all [bodyPostS, results, Tryd.results21]

theorem fail_world (B : Nat) (c : Int) (w : World) (hx : Bx w B) (e0 : Int) (he : w.cell? ⟨B + 1, 0, none⟩ = some (.int .i64 e0)) :
    Bx ((((((w.setCell ⟨B, 0, none⟩ (.int .i64 0)).setCell ⟨B, 1, none⟩ (.string ⟨#[]⟩)).setCell ⟨B, 2, none⟩ (.slice none 0 0)).setCell ⟨B, 3, none⟩ (.slice none 0 0)).setCell ⟨B + 1, 0, none⟩ (.int .i64 c)).alloc (.cells #[.int .i64 c] 53)).drew B ∧
    ((((((w.setCell ⟨B, 0, none⟩ (.int .i64 0)).setCell ⟨B, 1, none⟩ (.string ⟨#[]⟩)).setCell ⟨B, 2, none⟩ (.slice none 0 0)).setCell ⟨B, 3, none⟩ (.slice none 0 0)).setCell ⟨B + 1, 0, none⟩ (.int .i64 c)).alloc (.cells #[.int .i64 c] 53)).drew.cell? ⟨B + 1, 0, none⟩ = some (.int .i64 c) ∧
    Below B w ((((((w.setCell ⟨B, 0, none⟩ (.int .i64 0)).setCell ⟨B, 1, none⟩ (.string ⟨#[]⟩)).setCell ⟨B, 2, none⟩ (.slice none 0 0)).setCell ⟨B, 3, none⟩ (.slice none 0 0)).setCell ⟨B + 1, 0, none⟩ (.int .i64 c)).alloc (.cells #[.int .i64 c] 53)).drew := by
  have hlt := hx.lt
  have hlt2 : B + 1 < w.heap.size := World.block_lt_of_cell? w _ he
  obtain ⟨W, hW⟩ : ∃ W, W = (((w.setCell ⟨B, 0, none⟩ (.int .i64 0)).setCell ⟨B, 1, none⟩ (.string ⟨#[]⟩)).setCell ⟨B, 2, none⟩ (.slice none 0 0)).setCell ⟨B, 3, none⟩ (.slice none 0 0) := ⟨_, rfl⟩
  rw [← hW]
  have hsz : W.heap.size = w.heap.size := by rw [hW]; exact size_four _ _ _ _ _ _
  have hbx : Bx W B := by
    rw [hW]
    obtain ⟨r0, r1, r2, r3, rf⟩ := hx
    refine ⟨?_, ?_, ?_, ?_, fun j => ?_⟩
    · simp [go_sem, r0]
    · simp [go_sem, r1]
    · simp [go_sem, r2]
    · simp [go_sem, r3]
    · rw [World.frozen?_setCell, World.frozen?_setCell, World.frozen?_setCell, World.frozen?_setCell]; exact rf j
  have he1 : W.cell? ⟨B + 1, 0, none⟩ = some (.int .i64 e0) := by
    rw [hW]
    exact (World.cell?_of_block (a := ⟨B + 1, 0, none⟩) (heap_four _ _ _ _ _ _ (B + 1) (by omega))).trans he
  have hb : Below B w W := by
    rw [hW]
    exact ((((Below.refl B w).setCell (p := ⟨B, 0, none⟩) (Nat.le_refl _) _).setCell (p := ⟨B, 1, none⟩) (Nat.le_refl _) _).setCell (p := ⟨B, 2, none⟩) (Nat.le_refl _) _).setCell (p := ⟨B, 3, none⟩) (Nat.le_refl _) _
  have hs2 : (W.setCell ⟨B + 1, 0, none⟩ (.int .i64 c)).heap.size = w.heap.size := by rw [← hsz]; simp [World.setCell]
  refine ⟨?_, ?_, ((hb.setCell (p := ⟨B + 1, 0, none⟩) (by show B ≤ B + 1; omega) _).alloc (by rw [hs2]; omega) _).drew⟩
  · have h1 : Bx (W.setCell ⟨B + 1, 0, none⟩ (.int .i64 c)) B := hbx.keep (Below.heap_setCell _ _ _ _ (by show B ≠ B + 1; omega))
    exact h1.keep (Below.heap_alloc _ _ _ (by rw [hs2]; exact hlt))
  · have h1 : ((W.setCell ⟨B + 1, 0, none⟩ (.int .i64 c)).alloc (.cells #[.int .i64 c] 53)).cell? ⟨B + 1, 0, none⟩ = (W.setCell ⟨B + 1, 0, none⟩ (.int .i64 c)).cell? ⟨B + 1, 0, none⟩ := World.cell?_of_block (a := ⟨B + 1, 0, none⟩) (Below.heap_alloc _ _ _ (by rw [hs2]; exact hlt2))
    exact h1.trans (World.cell?_setCell_same _ _ _ he1)

set_option maxHeartbeats 2000000 in
set_option maxRecDepth 100000 in
/-- .. of one that has failed: the error. -/
theorem catch_fail (B : Nat) (c : Int) (w : World) (hx : Bx w B) (e0 : Int) (he : w.cell? ⟨B + 1, 0, none⟩ = some (.int .i64 e0)) (hf : w.frozen? ⟨B + 1, 0, none⟩ = false) :
    CallsD Tryd.prog 21 #[.pointer (some ⟨B, 0, none⟩), .pointer (some ⟨B + 1, 0, none⟩)] (.panicking [pe c]) w fun e u' w' =>
      e = .returned (.tuple #[]) ∧ u' = .panicking [{ v := .iface 53 (.agg #[.int .i64 c]), recovered := true }] ∧ Bx w' B ∧ w'.cell? ⟨B + 1, 0, none⟩ = some (.int .i64 c) ∧ Below B w w' := by
  have hlt := hx.lt
  have HW := Lib.hid (fail_world B c w hx e0 he)
  obtain ⟨r0, r1, r2, r3, rf⟩ := hx
  have hta : ∀ (v : Value) (W : World), (Instr.typeAssert (.iface 53 v) 20 53 true).run Tryd.prog W = .ok (.tuple #[v, .bool true]) W := fun v W => by kernel_rfl
  have hlt2 : B + 1 < w.heap.size := World.block_lt_of_cell? w _ he
  refine callsD_of_wpS Tryd.func21 rfl fun c₀ cs hu => ?_
  unfold pe at hu
  apply wpS_seq
  apply wpS_region
  simp [wpOpsS, go_sem, recoverD, hu, Tryd.ntmps21, Exit.thenS]
  refine wpS_of_wp ?_
  go_wp2_with fail
  go_region
  all_goals
    go_wp2_with fail
    exact ⟨rfl, _, rfl, .tuple #[], by simp [results, Tryd.results21], rfl, rfl, HW.out⟩

end Go.Proofs.YtbcenaljaoejkaaDoor

/-
  jread: what Read answers.
-/
namespace Go.Proofs.YtbcenaljaoejkaaDoor
open Go.RowKit

/-- What Read answers: the value and 0, or no value and the error. -/
def ReadIs (n : Nat) (w : World) (o : Option JV × Nat) (e : Ending) (w' : World) : Prop :=
  Below w.heap.size w w' ∧ ∃ v, e = .returned (.tuple #[v, .int .i64 o.2]) ∧ match o.1 with
    | some x => RdD w' (fun b => w.heap.size ≤ b ∧ b < w'.heap.size) n x v
    | none => v = leaf 0 ⟨#[]⟩

theorem readP_zero {l : List UInt8} {x : JV} {c : Nat} (h : readP l = (some x, c)) : c = 0 := by
  unfold readP at h
  split at h
  · cases h
  · split at h
    · cases h
    · split at h
      · cases h
      · split at h
        · cases h
        · split at h
          · cases h
          · injection h with _ h; exact h.symm

theorem boxes_new (w : World) : Bx ((w.alloc (.cells #[.int .i64 0, .string ⟨#[]⟩, .slice none 0 0, .slice none 0 0] 26)).alloc (.cells #[.int .i64 0] 27)) w.heap.size ∧
    ((w.alloc (.cells #[.int .i64 0, .string ⟨#[]⟩, .slice none 0 0, .slice none 0 0] 26)).alloc (.cells #[.int .i64 0] 27)).cell? ⟨w.heap.size + 1, 0, none⟩ = some (.int .i64 0) ∧
    ((w.alloc (.cells #[.int .i64 0, .string ⟨#[]⟩, .slice none 0 0, .slice none 0 0] 26)).alloc (.cells #[.int .i64 0] 27)).frozen? ⟨w.heap.size + 1, 0, none⟩ = false ∧
    Below w.heap.size w ((w.alloc (.cells #[.int .i64 0, .string ⟨#[]⟩, .slice none 0 0, .slice none 0 0] 26)).alloc (.cells #[.int .i64 0] 27)) := by
  refine ⟨(Bx.new w).keep (Below.heap_alloc _ _ _ (by simp)), by go_simp, by go_simp, ((Below.refl _ w).alloc (Nat.le_refl _) _).alloc (by simp) _⟩

set_option maxHeartbeats 2000000 in
set_option maxRecDepth 100000 in
theorem read_big (s : ByteArray) (w : World) (hs : 4000 < s.size) :
    Calls Tryd.prog 15 #[.string s] w (ReadIs (s.size + 1) w (readP s.data.toList)) := by
  have HE := Lib.hid (show readP s.data.toList = (none, 3) by unfold readP; rw [if_pos (show 4000 < s.data.toList.length from hs)])
  have hd : decide ((4000 : Int) < s.size) = true := decide_eq_true (by omega)
  have hmf : ∀ (fn : Fn) (first cap : Array Value) (w : World), (Instr.makeFunc fn first cap).run Tryd.prog w = .ok (.func fn first cap) w := fun _ _ _ _ => rfl
  go_enter_defers Tryd.func15, Tryd.ntmps15
  go_wp2_with fail
  refine (fail_any 3 _).mono ?_
  rintro e w1 ⟨rfl, rfl⟩
  obtain ⟨hx, he, hf, hb⟩ := boxes_new w
  refine leaves_cons (f := 21) (args := #[.pointer (some ⟨w.heap.size, 0, none⟩), .pointer (some ⟨w.heap.size + 1, 0, none⟩)]) (by simp) (by simp [go_sem]) ?_
  refine (catch_fail w.heap.size 3 _ hx 0 he hf).mono ?_
  rintro e u' w2 ⟨rfl, rfl, ⟨r0, r1, r2, r3, rf⟩, hc, hb2⟩
  rw [HE.out]
  refine ⟨_, by simp [results, Tryd.results15, go_sem, r0, r1, r2, r3, hc, leaf], hb.trans hb2, _, rfl, rfl⟩

set_option maxHeartbeats 4000000 in
set_option maxRecDepth 100000 in
theorem read_fit (s : ByteArray) (w : World) (hs : s.size ≤ 4000) :
    Calls Tryd.prog 15 #[.string s] w (ReadIs (s.size + 1) w (readP s.data.toList)) := by
  have hd : decide ((4000 : Int) < s.size) = false := decide_eq_false (by omega)
  have hmf : ∀ (fn : Fn) (first cap : Array Value) (w : World), (Instr.makeFunc fn first cap).run Tryd.prog w = .ok (.func fn first cap) w := fun _ _ _ _ => rfl
  obtain ⟨hx, he, hf, hb⟩ := boxes_new w
  have hz2 : ((w.alloc (.cells #[.int .i64 0, .string ⟨#[]⟩, .slice none 0 0, .slice none 0 0] 26)).alloc (.cells #[.int .i64 0] 27)).heap.size = w.heap.size + 2 := by simp
  obtain ⟨W, hW⟩ : ∃ W, W = (((w.alloc (.cells #[.int .i64 0, .string ⟨#[]⟩, .slice none 0 0, .slice none 0 0] 26)).alloc (.cells #[.int .i64 0] 27)).alloc (.cells #[.string s, .int .i64 0, .bool false, .bool false] 56)) := ⟨_, rfl⟩
  have hWz : W.heap.size = w.heap.size + 3 := by rw [hW]; simp
  have hrd : Rdr W (w.heap.size + 2) s 0 false false := by
    rw [hW]
    refine ⟨?_, ?_, ?_, ?_, fun j => ?_⟩ <;> go_simp
  have hxW : Bx W w.heap.size := by rw [hW]; exact hx.keep (Below.heap_alloc _ _ _ (by rw [hz2]; omega))
  have heW : W.cell? ⟨w.heap.size + 1, 0, none⟩ = some (.int .i64 0) := by
    rw [hW]; exact (World.cell?_of_block (a := ⟨w.heap.size + 1, 0, none⟩) (Below.heap_alloc _ _ (w.heap.size + 1) (by rw [hz2]; omega))).trans he
  have hfW : W.frozen? ⟨w.heap.size + 1, 0, none⟩ = false := by
    rw [hW]; exact (World.frozen?_of_block (a := ⟨w.heap.size + 1, 0, none⟩) (Below.heap_alloc _ _ (w.heap.size + 1) (by rw [hz2]; omega))).trans hf
  have hbW : Below w.heap.size w W := by rw [hW]; exact hb.alloc (by rw [hz2]; omega) _
  have HWh := whole_any' (w.heap.size + 2) s W hrd hs
  have HW := Lib.hid hW
  have HRP := Lib.hid (show readP s.data.toList = readP s.data.toList from rfl)
  clear hW hx he hf hb hz2
  go_enter_defers Tryd.func15, Tryd.ntmps15
  go_wp2_with fail
  rw [← HW.out]
  refine HWh.mono ?_
  cases ho : readP s.data.toList with
  | mk o c =>
  rintro e w1 ⟨ha1, h1⟩
  have hx1 : Bx w1 w.heap.size := hxW.keep (ha1.block _ (by omega) (by omega))
  have he1 : w1.cell? ⟨w.heap.size + 1, 0, none⟩ = some (.int .i64 0) := (ha1.cell (by omega) (by omega)).trans heW
  have hf1 : w1.frozen? ⟨w.heap.size + 1, 0, none⟩ = false := (ha1.frozen (by omega) (by omega)).trans hfW
  have hb1 : Below w.heap.size w w1 := hbW.trans ((ha1.mono (by omega)).below (by omega))
  cases o with
  | none =>
    obtain rfl : e = .panicked [pe c] := h1
    refine leaves_cons (f := 21) (args := #[.pointer (some ⟨w.heap.size, 0, none⟩), .pointer (some ⟨w.heap.size + 1, 0, none⟩)]) (by simp) (by simp [go_sem]) ?_
    refine (catch_fail w.heap.size c _ hx1 0 he1 hf1).mono ?_
    rintro e u' w2 ⟨rfl, rfl, ⟨r0, r1, r2, r3, rf⟩, hc, hb2⟩
    refine ⟨_, by simp [results, Tryd.results15, go_sem, r0, r1, r2, r3, hc, leaf], hb1.trans hb2, _, rfl, rfl⟩
  | some x =>
    obtain ⟨v, rfl, hR⟩ := h1
    obtain ⟨an, cn, ap, cp, rfl⟩ := hR.shape
    have hc0 : c = 0 := readP_zero ho
    have hz1 := ha1.size
    obtain ⟨r0, r1, r2, r3, rf⟩ := hx1
    have HRR := Lib.hid hR
    subst hc0
    have HO := Lib.hid ho
    clear ho hR
    go_wp2_with fail
    refine leaves_cons (f := 21) (args := #[.pointer (some ⟨w.heap.size, 0, none⟩), .pointer (some ⟨w.heap.size + 1, 0, none⟩)]) (by simp) (by simp [go_sem]) ?_
    refine (catch_idle ⟨w.heap.size, 0, none⟩ ⟨w.heap.size + 1, 0, none⟩ _).mono ?_
    rintro e u' w2 ⟨rfl, rfl, rfl⟩
    rw [HO.out]
    refine ⟨.tuple #[.agg #[.int .i64 x.k, .string x.s, .slice an x.ns.length cn, .slice ap x.ps.length cp], .int .i64 0], by simp [results, Tryd.results15, go_sem, r0, r1, r2, r3, he1], ?_, _, rfl, ?_⟩
    · exact ((((hb1.setCell (p := ⟨w.heap.size, 0, none⟩) (Nat.le_refl _) _).setCell (p := ⟨w.heap.size, 1, none⟩) (Nat.le_refl _) _).setCell (p := ⟨w.heap.size, 2, none⟩) (Nat.le_refl _) _).setCell (p := ⟨w.heap.size, 3, none⟩) (Nat.le_refl _) _).setCell (p := ⟨w.heap.size + 1, 0, none⟩) (by show w.heap.size ≤ w.heap.size + 1; omega) _
    · refine RdD.step (fun b hd => ⟨by have := hd.1; omega, ?_⟩) (fun b o hd => ?_) HRR.out
      · have h1 := hd.1
        refine World.cell?_of_block (a := ⟨b, _, none⟩) ?_
        rw [Below.heap_setCell _ _ _ _ (show b ≠ w.heap.size + 1 by omega), heap_four _ _ _ _ _ _ b (by omega)]
      · have h2 := hd.2
        simp only [World.setCell, Array.size_modify]
        exact h2

theorem read_any (s : ByteArray) (w : World) : Calls Tryd.prog 8 #[.string s] w (ReadIs (s.size + 1) w (readP s.data.toList)) := by
  have HC := fun W => (show Calls Tryd.prog 15 #[.string s] W (ReadIs (s.size + 1) W (readP s.data.toList)) from if h : s.size ≤ 4000 then read_fit s W h else read_big s W (by omega))
  cases ho : readP s.data.toList with
  | mk o c =>
  rw [ho] at HC
  go_enter Tryd.func8, Tryd.ntmps8
  go_wp2_with fail
  refine (HC _).mono ?_
  rintro e w1 ⟨hb, v, rfl, hv⟩
  have hx : Bx w1 w.heap.size := (Bx.new w).keep (hb.block _ (by simp))
  have hz := hx.lt
  have hbw : Below w.heap.size w w1 := ((Below.refl _ w).alloc (Nat.le_refl _) _).trans (hb.mono (by simp))
  have hsh : ∃ c0 c1 c2 c3, v = .agg #[c0, c1, c2, c3] ∧ (∃ k z, c0 = .int k z) ∧ (∃ z, c1 = .string z) ∧ (∃ a n c, c2 = .slice a n c) ∧ (∃ a n c, c3 = .slice a n c) := by
    cases o with
    | none => exact ⟨_, _, _, _, hv, ⟨_, _, rfl⟩, ⟨_, rfl⟩, ⟨_, _, _, rfl⟩, ⟨_, _, _, rfl⟩⟩
    | some x =>
      obtain ⟨an, cn, ap, cp, e⟩ := hv.shape
      exact ⟨_, _, _, _, e, ⟨_, _, rfl⟩, ⟨_, rfl⟩, ⟨_, _, _, rfl⟩, ⟨_, _, _, rfl⟩⟩
  obtain ⟨_, _, _, _, rfl, ⟨kk, zz, rfl⟩, ⟨ss, rfl⟩, ⟨a2, n2, c2, rfl⟩, ⟨a3, n3, c3, rfl⟩⟩ := hsh
  obtain ⟨r0, r1, r2, r3, rf⟩ := hx
  have HV := Lib.hid hv
  clear ho hv
  go_wp2_with fail
  refine bodyPost_ret (v := .tuple #[.agg #[.int kk zz, .string ss, .slice a2 n2 c2, .slice a3 n3 c3], .int .i64 c]) (by simp [results, Tryd.results8, go_sem, r0, r1, r2, r3]) rfl ?_
  refine ⟨(((hbw.setCell (p := ⟨w.heap.size, 0, none⟩) (Nat.le_refl _) _).setCell (p := ⟨w.heap.size, 1, none⟩) (Nat.le_refl _) _).setCell (p := ⟨w.heap.size, 2, none⟩) (Nat.le_refl _) _).setCell (p := ⟨w.heap.size, 3, none⟩) (Nat.le_refl _) _, _, rfl, ?_⟩
  cases o with
  | none => exact HV.out
  | some x => exact rd_boxed (by simp) HV.out _ _ _ _

end Go.Proofs.YtbcenaljaoejkaaDoor
