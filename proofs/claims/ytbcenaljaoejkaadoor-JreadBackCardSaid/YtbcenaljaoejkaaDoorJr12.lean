/-
  jread: what Read answers.
-/
import Derived.Test.YtbcenaljaoejkaaDoorJr11
namespace Go.Proofs.YtbcenaljaoejkaaDoor
open Go.RowKit

/-- What Read answers: the value and 0, or no value and the error. -/
def ReadIs (n : Nat) (w : World) (o : Option JV × Nat) (e : Ending) (w' : World) : Prop :=
  Below w.heap.size w w' ∧ ∃ v, e = .returned (.tuple #[v, .int .i64 o.2]) ∧ match o.1 with
    | some x => RdD w' (fun b => w.heap.size ≤ b ∧ b < w'.heap.size) n x v
    | none => v = leaf 0 ⟨#[]⟩

theorem readP_zero {l : List UInt8} {x : JV} {c : Nat} (h : readP l = (some x, c)) : c = 0 := by
  unfold readP at h
  split at h
  · cases h
  · split at h
    · cases h
    · split at h
      · cases h
      · split at h
        · cases h
        · split at h
          · cases h
          · injection h with _ h; exact h.symm

theorem boxes_new (w : World) : Bx ((w.alloc (.cells #[.int .i64 0, .string ⟨#[]⟩, .slice none 0 0, .slice none 0 0] 26)).alloc (.cells #[.int .i64 0] 27)) w.heap.size ∧
    ((w.alloc (.cells #[.int .i64 0, .string ⟨#[]⟩, .slice none 0 0, .slice none 0 0] 26)).alloc (.cells #[.int .i64 0] 27)).cell? ⟨w.heap.size + 1, 0, none⟩ = some (.int .i64 0) ∧
    ((w.alloc (.cells #[.int .i64 0, .string ⟨#[]⟩, .slice none 0 0, .slice none 0 0] 26)).alloc (.cells #[.int .i64 0] 27)).frozen? ⟨w.heap.size + 1, 0, none⟩ = false ∧
    Below w.heap.size w ((w.alloc (.cells #[.int .i64 0, .string ⟨#[]⟩, .slice none 0 0, .slice none 0 0] 26)).alloc (.cells #[.int .i64 0] 27)) := by
  refine ⟨(Bx.new w).keep (Below.heap_alloc _ _ _ (by simp)), by go_simp, by go_simp, ((Below.refl _ w).alloc (Nat.le_refl _) _).alloc (by simp) _⟩

set_option maxHeartbeats 2000000 in
set_option maxRecDepth 100000 in
theorem read_big (s : ByteArray) (w : World) (hs : 4000 < s.size) :
    Calls Tryd.prog 15 #[.string s] w (ReadIs (s.size + 1) w (readP s.data.toList)) := by
  have HE := Lib.hid (show readP s.data.toList = (none, 3) by unfold readP; rw [if_pos (show 4000 < s.data.toList.length from hs)])
  have hd : decide ((4000 : Int) < s.size) = true := decide_eq_true (by omega)
  have hmf : ∀ (fn : Fn) (first cap : Array Value) (w : World), (Instr.makeFunc fn first cap).run Tryd.prog w = .ok (.func fn first cap) w := fun _ _ _ _ => rfl
  go_enter_defers Tryd.func15, Tryd.ntmps15
  go_wp2_with fail
  refine (fail_any 3 _).mono ?_
  rintro e w1 ⟨rfl, rfl⟩
  obtain ⟨hx, he, hf, hb⟩ := boxes_new w
  refine leaves_cons (f := 21) (args := #[.pointer (some ⟨w.heap.size, 0, none⟩), .pointer (some ⟨w.heap.size + 1, 0, none⟩)]) (by simp) (by simp [go_sem]) ?_
  refine (catch_fail w.heap.size 3 _ hx 0 he hf).mono ?_
  rintro e u' w2 ⟨rfl, rfl, ⟨r0, r1, r2, r3, rf⟩, hc, hb2⟩
  rw [HE.out]
  refine ⟨_, by simp [results, Tryd.results15, go_sem, r0, r1, r2, r3, hc, leaf], hb.trans hb2, _, rfl, rfl⟩

set_option maxHeartbeats 4000000 in
set_option maxRecDepth 100000 in
theorem read_fit (s : ByteArray) (w : World) (hs : s.size ≤ 4000) :
    Calls Tryd.prog 15 #[.string s] w (ReadIs (s.size + 1) w (readP s.data.toList)) := by
  have hd : decide ((4000 : Int) < s.size) = false := decide_eq_false (by omega)
  have hmf : ∀ (fn : Fn) (first cap : Array Value) (w : World), (Instr.makeFunc fn first cap).run Tryd.prog w = .ok (.func fn first cap) w := fun _ _ _ _ => rfl
  obtain ⟨hx, he, hf, hb⟩ := boxes_new w
  have hz2 : ((w.alloc (.cells #[.int .i64 0, .string ⟨#[]⟩, .slice none 0 0, .slice none 0 0] 26)).alloc (.cells #[.int .i64 0] 27)).heap.size = w.heap.size + 2 := by simp
  obtain ⟨W, hW⟩ : ∃ W, W = (((w.alloc (.cells #[.int .i64 0, .string ⟨#[]⟩, .slice none 0 0, .slice none 0 0] 26)).alloc (.cells #[.int .i64 0] 27)).alloc (.cells #[.string s, .int .i64 0, .bool false, .bool false] 56)) := ⟨_, rfl⟩
  have hWz : W.heap.size = w.heap.size + 3 := by rw [hW]; simp
  have hrd : Rdr W (w.heap.size + 2) s 0 false false := by
    rw [hW]
    refine ⟨?_, ?_, ?_, ?_, fun j => ?_⟩ <;> go_simp
  have hxW : Bx W w.heap.size := by rw [hW]; exact hx.keep (Below.heap_alloc _ _ _ (by rw [hz2]; omega))
  have heW : W.cell? ⟨w.heap.size + 1, 0, none⟩ = some (.int .i64 0) := by
    rw [hW]; exact (World.cell?_of_block (a := ⟨w.heap.size + 1, 0, none⟩) (Below.heap_alloc _ _ (w.heap.size + 1) (by rw [hz2]; omega))).trans he
  have hfW : W.frozen? ⟨w.heap.size + 1, 0, none⟩ = false := by
    rw [hW]; exact (World.frozen?_of_block (a := ⟨w.heap.size + 1, 0, none⟩) (Below.heap_alloc _ _ (w.heap.size + 1) (by rw [hz2]; omega))).trans hf
  have hbW : Below w.heap.size w W := by rw [hW]; exact hb.alloc (by rw [hz2]; omega) _
  have HWh := whole_any' (w.heap.size + 2) s W hrd hs
  have HW := Lib.hid hW
  have HRP := Lib.hid (show readP s.data.toList = readP s.data.toList from rfl)
  clear hW hx he hf hb hz2
  go_enter_defers Tryd.func15, Tryd.ntmps15
  go_wp2_with fail
  rw [← HW.out]
  refine HWh.mono ?_
  cases ho : readP s.data.toList with
  | mk o c =>
  rintro e w1 ⟨ha1, h1⟩
  have hx1 : Bx w1 w.heap.size := hxW.keep (ha1.block _ (by omega) (by omega))
  have he1 : w1.cell? ⟨w.heap.size + 1, 0, none⟩ = some (.int .i64 0) := (ha1.cell (by omega) (by omega)).trans heW
  have hf1 : w1.frozen? ⟨w.heap.size + 1, 0, none⟩ = false := (ha1.frozen (by omega) (by omega)).trans hfW
  have hb1 : Below w.heap.size w w1 := hbW.trans ((ha1.mono (by omega)).below (by omega))
  cases o with
  | none =>
    obtain rfl : e = .panicked [pe c] := h1
    refine leaves_cons (f := 21) (args := #[.pointer (some ⟨w.heap.size, 0, none⟩), .pointer (some ⟨w.heap.size + 1, 0, none⟩)]) (by simp) (by simp [go_sem]) ?_
    refine (catch_fail w.heap.size c _ hx1 0 he1 hf1).mono ?_
    rintro e u' w2 ⟨rfl, rfl, ⟨r0, r1, r2, r3, rf⟩, hc, hb2⟩
    refine ⟨_, by simp [results, Tryd.results15, go_sem, r0, r1, r2, r3, hc, leaf], hb1.trans hb2, _, rfl, rfl⟩
  | some x =>
    obtain ⟨v, rfl, hR⟩ := h1
    obtain ⟨an, cn, ap, cp, rfl⟩ := hR.shape
    have hc0 : c = 0 := readP_zero ho
    have hz1 := ha1.size
    obtain ⟨r0, r1, r2, r3, rf⟩ := hx1
    have HRR := Lib.hid hR
    subst hc0
    have HO := Lib.hid ho
    clear ho hR
    go_wp2_with fail
    refine leaves_cons (f := 21) (args := #[.pointer (some ⟨w.heap.size, 0, none⟩), .pointer (some ⟨w.heap.size + 1, 0, none⟩)]) (by simp) (by simp [go_sem]) ?_
    refine (catch_idle ⟨w.heap.size, 0, none⟩ ⟨w.heap.size + 1, 0, none⟩ _).mono ?_
    rintro e u' w2 ⟨rfl, rfl, rfl⟩
    rw [HO.out]
    refine ⟨.tuple #[.agg #[.int .i64 x.k, .string x.s, .slice an x.ns.length cn, .slice ap x.ps.length cp], .int .i64 0], by simp [results, Tryd.results15, go_sem, r0, r1, r2, r3, he1], ?_, _, rfl, ?_⟩
    · exact ((((hb1.setCell (p := ⟨w.heap.size, 0, none⟩) (Nat.le_refl _) _).setCell (p := ⟨w.heap.size, 1, none⟩) (Nat.le_refl _) _).setCell (p := ⟨w.heap.size, 2, none⟩) (Nat.le_refl _) _).setCell (p := ⟨w.heap.size, 3, none⟩) (Nat.le_refl _) _).setCell (p := ⟨w.heap.size + 1, 0, none⟩) (by show w.heap.size ≤ w.heap.size + 1; omega) _
    · refine RdD.step (fun b hd => ⟨by have := hd.1; omega, ?_⟩) (fun b o hd => ?_) HRR.out
      · have h1 := hd.1
        refine World.cell?_of_block (a := ⟨b, _, none⟩) ?_
        rw [Below.heap_setCell _ _ _ _ (show b ≠ w.heap.size + 1 by omega), heap_four _ _ _ _ _ _ b (by omega)]
      · have h2 := hd.2
        simp only [World.setCell, Array.size_modify]
        exact h2

theorem read_any (s : ByteArray) (w : World) : Calls Tryd.prog 8 #[.string s] w (ReadIs (s.size + 1) w (readP s.data.toList)) := by
  have HC := fun W => (show Calls Tryd.prog 15 #[.string s] W (ReadIs (s.size + 1) W (readP s.data.toList)) from if h : s.size ≤ 4000 then read_fit s W h else read_big s W (by omega))
  cases ho : readP s.data.toList with
  | mk o c =>
  rw [ho] at HC
  go_enter Tryd.func8, Tryd.ntmps8
  go_wp2_with fail
  refine (HC _).mono ?_
  rintro e w1 ⟨hb, v, rfl, hv⟩
  have hx : Bx w1 w.heap.size := (Bx.new w).keep (hb.block _ (by simp))
  have hz := hx.lt
  have hbw : Below w.heap.size w w1 := ((Below.refl _ w).alloc (Nat.le_refl _) _).trans (hb.mono (by simp))
  have hsh : ∃ c0 c1 c2 c3, v = .agg #[c0, c1, c2, c3] ∧ (∃ k z, c0 = .int k z) ∧ (∃ z, c1 = .string z) ∧ (∃ a n c, c2 = .slice a n c) ∧ (∃ a n c, c3 = .slice a n c) := by
    cases o with
    | none => exact ⟨_, _, _, _, hv, ⟨_, _, rfl⟩, ⟨_, rfl⟩, ⟨_, _, _, rfl⟩, ⟨_, _, _, rfl⟩⟩
    | some x =>
      obtain ⟨an, cn, ap, cp, e⟩ := hv.shape
      exact ⟨_, _, _, _, e, ⟨_, _, rfl⟩, ⟨_, rfl⟩, ⟨_, _, _, rfl⟩, ⟨_, _, _, rfl⟩⟩
  obtain ⟨_, _, _, _, rfl, ⟨kk, zz, rfl⟩, ⟨ss, rfl⟩, ⟨a2, n2, c2, rfl⟩, ⟨a3, n3, c3, rfl⟩⟩ := hsh
  obtain ⟨r0, r1, r2, r3, rf⟩ := hx
  have HV := Lib.hid hv
  clear ho hv
  go_wp2_with fail
  refine bodyPost_ret (v := .tuple #[.agg #[.int kk zz, .string ss, .slice a2 n2 c2, .slice a3 n3 c3], .int .i64 c]) (by simp [results, Tryd.results8, go_sem, r0, r1, r2, r3]) rfl ?_
  refine ⟨(((hbw.setCell (p := ⟨w.heap.size, 0, none⟩) (Nat.le_refl _) _).setCell (p := ⟨w.heap.size, 1, none⟩) (Nat.le_refl _) _).setCell (p := ⟨w.heap.size, 2, none⟩) (Nat.le_refl _) _).setCell (p := ⟨w.heap.size, 3, none⟩) (Nat.le_refl _) _, _, rfl, ?_⟩
  cases o with
  | none => exact HV.out
  | some x => exact rd_boxed (by simp) HV.out _ _ _ _

end Go.Proofs.YtbcenaljaoejkaaDoor
