/-
  What value.writeParts writes.
-/
import Derived.Test.YtkfllppggjhhmaaGreatDoorMV10
namespace Go.Proofs.YtkfllppggjhhmaaGreatDoor
open Go.RowKit
set_option linter.unusedSimpArgs false

/-- What write answers: whether the value may be read; then its text is written. -/
def WOut (B b : Nat) (ok : Bool) (l : List UInt8) (w : World) (e : Ending) (w' : World) : Prop :=
  e = .returned (.bool ok) ∧ (ok = true → Bld 81 B b [] (Lib.byteCells l) w') ∧ Below B w w' ∧ Lib.OthersKept 5 (some b) w w'
/-- What write does at values of at most m levels, d deep. -/
def WValV (m d : Nat) : Prop := ∀ (n : Nat) (x : JV) (v : Value) (w : World) (B b : Nat) (bs : List UInt8), Rd w B n x v → Bld 81 B b [] (Lib.byteCells bs) w → bs.length + (vtxt m x).length ≤ 140737488355328 → B ≤ w.heap.size →
    Calls Tryz.prog 258 #[.pointer (some ⟨b, 0, none⟩), nodeV x.k v, .int .i64 d] w (WOut B b (rdOk m x) (bs ++ vtxt m x) w)

theorem vpts_step (f : JV → List UInt8) (ob : Bool) (ns : List ByteArray) (ps : List JV) (k : Nat) (h : k < ps.length) :
    vpts f ob (k == 0) (ns.drop k) (ps.drop k) = (if k == 0 then [] else [32]) ++ ((if ob then vbl ((ns.drop k).headD ⟨#[]⟩) ++ [58] else []) ++ (f ps[k] ++ vpts f ob false (ns.drop (k + 1)) (ps.drop (k + 1)))) := by
  rw [List.drop_eq_getElem_cons h]
  conv => lhs; unfold vpts
  rw [List.tail_drop]
def PartsRelV (B b : Nat) (T : List UInt8) (f : JV → List UInt8) (rd : JV → Bool) (ob : Bool) (x : JV) (bs : List UInt8) (w : World) (i : Value) (wr : World) : Prop :=
  ∃ (k : Nat) (acc : List UInt8), k ≤ x.ps.length ∧ i = .int .i64 k ∧ Bld 81 B b [] (Lib.byteCells (bs ++ acc)) wr ∧ Below B w wr ∧ Lib.OthersKept 5 (some b) w wr ∧
    T = acc ++ vpts f ob (k == 0) (x.ns.drop k) (x.ps.drop k) ∧ Hid (x.ps.all rd = (x.ps.drop k).all rd)

set_option maxHeartbeats 4000000 in
set_option maxRecDepth 100000 in
theorem vwriteParts_list (m d : Nat) (ih : WValV m (d + 1)) (hd : d ≤ 12) (n : Nat) (x : JV) (ap : Option Addr) (cp : Nat) (bg en : ByteArray) (w : World) (B b : Nat) (bs : List UInt8) (hr : Rows4 w B (Rd w B n) ap x.ps) (z3 : x.ps.length ≤ 2000000) (_z5 : x.ps.length ≤ cp)
    (hbld : Bld 81 B b [] (Lib.byteCells bs) w) (hlen : bs.length + (bg.size + ((vpts (vtxt m) false true x.ns x.ps).length + en.size)) ≤ 140737488355328) (hB : B ≤ w.heap.size) :
    Calls Tryz.prog 288 #[.pointer (some ⟨b, 0, none⟩), .string bg, .slice none 0 0, .slice ap x.ps.length cp, .string en, .int .i64 d] w (WOut B b (x.ps.all (rdOk m)) (bs ++ (vbl bg ++ (vpts (vtxt m) false true x.ns x.ps ++ vbl en))) w) := by
  have hvl : ∀ z : ByteArray, (vbl z).length = z.size := fun _ => rfl
  have hd12 : decide ((12 : Int) < (d : Int)) = false := decide_eq_false (by omega)
  have hwrap : IntKind.i64.wrap ((d : Int) + 1) = (d : Int) + 1 := IntWalk.i64_in _ (by omega)
  have HIH := Lib.hid ih
  generalize hT : vpts (vtxt m) false true x.ns x.ps = T at *
  have HT := Lib.hid hT
  have hbl := hbld.lt
  have HW := wStr bg hbld (by rw [hvl]; omega) hB
  clear hT ih
  go_enter Tryz.func288, Tryz.ntmps288
  go_wp2_with fail
  refine HW.mono ?_
  rintro e w0 ⟨rfl, hb0', hB0, hK0⟩
  go_wp2_with fail
  go_loopw [13, 14, 22] (fun _ _ i wr => PartsRelV B b T (vtxt m) (rdOk m) false x (bs ++ vbl bg) w i wr) (fun _ _ i _ => x.ps.length - (intOf i).toNat)
  case atStart => exact ⟨0, [], Nat.zero_le _, rfl, by rw [List.append_nil]; exact hb0', hB0, hK0, HT.out.symm, Lib.hid (by rw [List.drop_zero])⟩
  case round =>
    obtain ⟨k, acc, hk, rfl, hb0, hbw, hkp, hacc, HALL⟩ := hrel
    have HACC := Lib.hid hacc
    clear hacc
    have hBr : B ≤ wr.heap.size := Nat.le_trans hB hbw.size
    by_cases hlt : k < x.ps.length
    · have HP := Lib.hid (vpts_step (vtxt m) false x.ns x.ps k hlt)
      have HD := Lib.hid (show (x.ps.drop k).all (rdOk m) = (rdOk m x.ps[k] && (x.ps.drop (k + 1)).all (rdOk m)) by rw [List.drop_eq_getElem_cons hlt, List.all_cons])
      obtain ⟨b', off, y, an', cn', ap', cp', HY, rfl, hb', hRr, g0, g1, g2, g3⟩ := hr.elem hlt hbw
      rw [HY.out] at HP HD
      clear HY
      have hke : wr.heap.size ≠ b := by have := hb0.lt; omega
      have sb0 : Sb B b wr.heap.size #[.int .i64 y.k, .string y.s, .slice an' y.ns.length cn', .slice ap' y.ps.length cp'] (bs ++ vbl bg ++ acc) wr (wr.alloc (.cells #[.int .i64 y.k, .string y.s, .slice an' y.ns.length cn', .slice ap' y.ps.length cp'] 53)) :=
        ⟨hb0.alloc _, (Below.refl _ _).alloc hBr _, (Lib.OthersKept.refl _ _ _).alloc _, heap_alloc_new _ _, by simp; omega⟩
      have ih := HIH.out
      clear HIH hbld HW HT
      by_cases hkz : k = 0
      · skip
        have hk1 : decide (0 < k) = false := by simp; omega
        have HKZ : Hid ((k == 0) = true) := Lib.hid (by simpa using hkz)
        clear hkz
        have hl := congrArg List.length HACC.out
        rw [HP.out] at hl
        simp only [List.length_append, List.length_cons, List.length_nil, if_true, if_false, Bool.false_eq_true, reduceIte, HKZ.out] at hl
        have hvl : ∀ z : ByteArray, (vbl z).length = z.size := fun _ => rfl
        have r00 : (wr.alloc (.cells #[.int .i64 y.k, .string y.s, .slice an' y.ns.length cn', .slice ap' y.ps.length cp'] 53)).cell? ⟨wr.heap.size, 0, none⟩ = some (.int .i64 y.k) := sb0.cell 0
        have r10 : (wr.alloc (.cells #[.int .i64 y.k, .string y.s, .slice an' y.ns.length cn', .slice ap' y.ps.length cp'] 53)).cell? ⟨wr.heap.size, 1, none⟩ = some (.string y.s) := sb0.cell 1
        have r20 : (wr.alloc (.cells #[.int .i64 y.k, .string y.s, .slice an' y.ns.length cn', .slice ap' y.ps.length cp'] 53)).cell? ⟨wr.heap.size, 2, none⟩ = some (.slice an' y.ns.length cn') := sb0.cell 2
        have r30 : (wr.alloc (.cells #[.int .i64 y.k, .string y.s, .slice an' y.ns.length cn', .slice ap' y.ps.length cp'] 53)).cell? ⟨wr.heap.size, 3, none⟩ = some (.slice ap' y.ps.length cp') := sb0.cell 3
        clear hr
        go_wp2_with fail
        refine (nodeOf_any y.k y.s an' y.ns.length cn' ap' y.ps.length cp' _).mono ?_
        rintro e w1 ⟨rfl, h2⟩
        have sb1 := sb0.below h2
        clear h2
        have r01 : w1.cell? ⟨wr.heap.size, 0, none⟩ = some (.int .i64 y.k) := sb1.cell 0
        have r11 : w1.cell? ⟨wr.heap.size, 1, none⟩ = some (.string y.s) := sb1.cell 1
        have r21 : w1.cell? ⟨wr.heap.size, 2, none⟩ = some (.slice an' y.ns.length cn') := sb1.cell 2
        have r31 : w1.cell? ⟨wr.heap.size, 3, none⟩ = some (.slice ap' y.ps.length cp') := sb1.cell 3
        go_wp2_with fail
        refine (ih n y _ _ B b _ (hRr.below sb1.bel) sb1.bld (by simp only [List.length_append, List.length_cons, List.length_nil, hvl] at hl hlen ⊢; omega) sb1.le).mono ?_
        rintro e w9 ⟨rfl, h1, h2, h3⟩
        have hB9 : Below B w w9 := hbw.trans (sb1.bel.trans h2)
        have hK9 : Lib.OthersKept 5 (some b) w w9 := hkp.trans (sb1.kep.trans h3)
        cases hok : rdOk m y with
        | false =>
          have HF := Lib.hid (show x.ps.all (rdOk m) = false by rw [HALL.out, HD.out, hok]; rfl)
          clear hok h1
          go_wp2_with fail
          go_ret
          exact ⟨by rw [HF.out]; rfl, fun h => absurd (HF.out.symm.trans h) (by decide), hB9, hK9⟩
        | true =>
          have HF := Lib.hid (show x.ps.all (rdOk m) = (x.ps.drop (k + 1)).all (rdOk m) by rw [HALL.out, HD.out, hok]; rfl)
          have h1' := h1 hok
          clear hok h1
          go_wp2_with fail
          go_roundw
          case rel =>
            refine ⟨k + 1, acc ++ (vtxt m y), by omega, by go_num, ?_, hB9, hK9, ?_, Lib.hid HF.out⟩
            · simpa only [List.append_assoc] using h1'
            · rw [HACC.out, HP.out, HKZ.out]; simp [List.append_assoc]
          case measure => simp [intOf]; omega
      · skip
        have hk1 : decide (0 < k) = true := by simp; omega
        have HKZ : Hid ((k == 0) = false) := Lib.hid (by simpa using hkz)
        clear hkz
        have hl := congrArg List.length HACC.out
        rw [HP.out] at hl
        simp only [List.length_append, List.length_cons, List.length_nil, if_true, if_false, Bool.false_eq_true, reduceIte, HKZ.out] at hl
        have hvl : ∀ z : ByteArray, (vbl z).length = z.size := fun _ => rfl
        have r00 : (wr.alloc (.cells #[.int .i64 y.k, .string y.s, .slice an' y.ns.length cn', .slice ap' y.ps.length cp'] 53)).cell? ⟨wr.heap.size, 0, none⟩ = some (.int .i64 y.k) := sb0.cell 0
        have r10 : (wr.alloc (.cells #[.int .i64 y.k, .string y.s, .slice an' y.ns.length cn', .slice ap' y.ps.length cp'] 53)).cell? ⟨wr.heap.size, 1, none⟩ = some (.string y.s) := sb0.cell 1
        have r20 : (wr.alloc (.cells #[.int .i64 y.k, .string y.s, .slice an' y.ns.length cn', .slice ap' y.ps.length cp'] 53)).cell? ⟨wr.heap.size, 2, none⟩ = some (.slice an' y.ns.length cn') := sb0.cell 2
        have r30 : (wr.alloc (.cells #[.int .i64 y.k, .string y.s, .slice an' y.ns.length cn', .slice ap' y.ps.length cp'] 53)).cell? ⟨wr.heap.size, 3, none⟩ = some (.slice ap' y.ps.length cp') := sb0.cell 3
        clear hr
        go_wp2_with fail
        refine (wByte 32 32 rfl sb0.bld (by simp only [List.length_append, List.length_cons, List.length_nil, hvl] at hl hlen ⊢; omega) sb0.le).mono ?_
        rintro e w1 ⟨rfl, h1, h2, h3⟩
        have sb1 := sb0.write hke h1 h2 h3
        clear h1 h2 h3
        have r01 : w1.cell? ⟨wr.heap.size, 0, none⟩ = some (.int .i64 y.k) := sb1.cell 0
        have r11 : w1.cell? ⟨wr.heap.size, 1, none⟩ = some (.string y.s) := sb1.cell 1
        have r21 : w1.cell? ⟨wr.heap.size, 2, none⟩ = some (.slice an' y.ns.length cn') := sb1.cell 2
        have r31 : w1.cell? ⟨wr.heap.size, 3, none⟩ = some (.slice ap' y.ps.length cp') := sb1.cell 3
        go_wp2_with fail
        refine (nodeOf_any y.k y.s an' y.ns.length cn' ap' y.ps.length cp' _).mono ?_
        rintro e w2 ⟨rfl, h2⟩
        have sb2 := sb1.below h2
        clear h2
        have r02 : w2.cell? ⟨wr.heap.size, 0, none⟩ = some (.int .i64 y.k) := sb2.cell 0
        have r12 : w2.cell? ⟨wr.heap.size, 1, none⟩ = some (.string y.s) := sb2.cell 1
        have r22 : w2.cell? ⟨wr.heap.size, 2, none⟩ = some (.slice an' y.ns.length cn') := sb2.cell 2
        have r32 : w2.cell? ⟨wr.heap.size, 3, none⟩ = some (.slice ap' y.ps.length cp') := sb2.cell 3
        go_wp2_with fail
        refine (ih n y _ _ B b _ (hRr.below sb2.bel) sb2.bld (by simp only [List.length_append, List.length_cons, List.length_nil, hvl] at hl hlen ⊢; omega) sb2.le).mono ?_
        rintro e w9 ⟨rfl, h1, h2, h3⟩
        have hB9 : Below B w w9 := hbw.trans (sb2.bel.trans h2)
        have hK9 : Lib.OthersKept 5 (some b) w w9 := hkp.trans (sb2.kep.trans h3)
        cases hok : rdOk m y with
        | false =>
          have HF := Lib.hid (show x.ps.all (rdOk m) = false by rw [HALL.out, HD.out, hok]; rfl)
          clear hok h1
          go_wp2_with fail
          go_ret
          exact ⟨by rw [HF.out]; rfl, fun h => absurd (HF.out.symm.trans h) (by decide), hB9, hK9⟩
        | true =>
          have HF := Lib.hid (show x.ps.all (rdOk m) = (x.ps.drop (k + 1)).all (rdOk m) by rw [HALL.out, HD.out, hok]; rfl)
          have h1' := h1 hok
          clear hok h1
          go_wp2_with fail
          go_roundw
          case rel =>
            refine ⟨k + 1, acc ++ ([32] ++ vtxt m y), by omega, by go_num, ?_, hB9, hK9, ?_, Lib.hid HF.out⟩
            · simpa only [List.append_assoc] using h1'
            · rw [HACC.out, HP.out, HKZ.out]; simp [List.append_assoc]
          case measure => simp [intOf]; omega
    · have HF := Lib.hid (show x.ps.all (rdOk m) = true by rw [HALL.out, List.drop_of_length_le (by omega)]; rfl)
      have HE : Hid (T = acc) := Lib.hid (by rw [HACC.out, List.drop_of_length_le (i := k) (l := x.ps) (by omega)]; simp [vpts])
      have hle : bs.length + (bg.size + (acc.length + en.size)) ≤ 140737488355328 := by rw [← HE.out]; exact hlen
      have HW2 := wStr en hb0 (by simp only [List.length_append, hvl]; omega) hBr
      clear HW hbld
      go_wp2_with fail
      refine HW2.mono ?_
      rintro e w9 ⟨rfl, h1, h2, h3⟩
      go_wp2_with fail
      go_ret
      refine ⟨by rw [HF.out]; rfl, fun _ => ?_, hbw.trans h2, hkp.trans h3⟩
      rw [HE.out]
      simpa only [List.append_assoc] using h1

set_option maxHeartbeats 4000000 in
set_option maxRecDepth 100000 in
theorem vwriteParts_obj (m d : Nat) (ih : WValV m (d + 1)) (hd : d ≤ 12) (n : Nat) (x : JV) (an : Option Addr) (cn : Nat) (ap : Option Addr) (cp : Nat) (bg en : ByteArray) (w : World) (B b : Nat) (bs : List UInt8) (hs : Strs w B an x.ns) (hr : Rows4 w B (Rd w B n) ap x.ps) (z2 : x.ns.length ≤ 2000000) (_z3 : x.ps.length ≤ 2000000) (_z4 : x.ns.length ≤ cn) (_z5 : x.ps.length ≤ cp) (hns : x.ns.length = x.ps.length)
    (hbld : Bld 81 B b [] (Lib.byteCells bs) w) (hlen : bs.length + (bg.size + ((vpts (vtxt m) true true x.ns x.ps).length + en.size)) ≤ 140737488355328) (hB : B ≤ w.heap.size) :
    Calls Tryz.prog 288 #[.pointer (some ⟨b, 0, none⟩), .string bg, .slice an x.ns.length cn, .slice ap x.ps.length cp, .string en, .int .i64 d] w (WOut B b (x.ps.all (rdOk m)) (bs ++ (vbl bg ++ (vpts (vtxt m) true true x.ns x.ps ++ vbl en))) w) := by
  have hvl : ∀ z : ByteArray, (vbl z).length = z.size := fun _ => rfl
  have hd12 : decide ((12 : Int) < (d : Int)) = false := decide_eq_false (by omega)
  have hwrap : IntKind.i64.wrap ((d : Int) + 1) = (d : Int) + 1 := IntWalk.i64_in _ (by omega)
  have HIH := Lib.hid ih
  have HNS : Hid (x.ns.length = x.ps.length) := Lib.hid hns
  generalize hT : vpts (vtxt m) true true x.ns x.ps = T at *
  have HT := Lib.hid hT
  have hbl := hbld.lt
  have HW := wStr bg hbld (by rw [hvl]; omega) hB
  clear hT ih hns
  go_enter Tryz.func288, Tryz.ntmps288
  go_wp2_with fail
  refine HW.mono ?_
  rintro e w0 ⟨rfl, hb0', hB0, hK0⟩
  go_wp2_with fail
  go_loopw [13, 14, 22] (fun _ _ i wr => PartsRelV B b T (vtxt m) (rdOk m) true x (bs ++ vbl bg) w i wr) (fun _ _ i _ => x.ps.length - (intOf i).toNat)
  case atStart => exact ⟨0, [], Nat.zero_le _, rfl, by rw [List.append_nil]; exact hb0', hB0, hK0, HT.out.symm, Lib.hid (by rw [List.drop_zero])⟩
  case round =>
    obtain ⟨k, acc, hk, rfl, hb0, hbw, hkp, hacc, HALL⟩ := hrel
    have HACC := Lib.hid hacc
    clear hacc
    have hBr : B ≤ wr.heap.size := Nat.le_trans hB hbw.size
    by_cases hlt : k < x.ps.length
    · have HP := Lib.hid (vpts_step (vtxt m) true x.ns x.ps k hlt)
      have HD := Lib.hid (show (x.ps.drop k).all (rdOk m) = (rdOk m x.ps[k] && (x.ps.drop (k + 1)).all (rdOk m)) by rw [List.drop_eq_getElem_cons hlt, List.all_cons])
      obtain ⟨b', off, y, an', cn', ap', cp', HY, rfl, hb', hRr, g0, g1, g2, g3⟩ := hr.elem hlt hbw
      rw [HY.out] at HP HD
      clear HY
      have hke : wr.heap.size ≠ b := by have := hb0.lt; omega
      have sb0 : Sb B b wr.heap.size #[.int .i64 y.k, .string y.s, .slice an' y.ns.length cn', .slice ap' y.ps.length cp'] (bs ++ vbl bg ++ acc) wr (wr.alloc (.cells #[.int .i64 y.k, .string y.s, .slice an' y.ns.length cn', .slice ap' y.ps.length cp'] 53)) :=
        ⟨hb0.alloc _, (Below.refl _ _).alloc hBr _, (Lib.OthersKept.refl _ _ _).alloc _, heap_alloc_new _ _, by simp; omega⟩
      have ih := HIH.out
      clear HIH hbld HW HT
      by_cases hkz : k = 0
      · skip
        have hk1 : decide (0 < k) = false := by simp; omega
        have HKZ : Hid ((k == 0) = true) := Lib.hid (by simpa using hkz)
        clear hkz
        have hkn : k < x.ns.length := by have := HNS.out; omega
        have hn0 : decide (0 < x.ns.length) = true := decide_eq_true (by omega)
        have HH := Lib.hid (head_drop x.ns k hkn)
        rw [HH.out] at HP
        obtain ⟨bn, on, rfl, hbn, hnz, hnc⟩ := hs.at_ hkn
        generalize hnm : x.ns[k] = nm at *
        clear hnm HH
        have hl := congrArg List.length HACC.out
        rw [HP.out] at hl
        simp only [List.length_append, List.length_cons, List.length_nil, if_true, if_false, Bool.false_eq_true, reduceIte, HKZ.out] at hl
        have hvl : ∀ z : ByteArray, (vbl z).length = z.size := fun _ => rfl
        have r00 : (wr.alloc (.cells #[.int .i64 y.k, .string y.s, .slice an' y.ns.length cn', .slice ap' y.ps.length cp'] 53)).cell? ⟨wr.heap.size, 0, none⟩ = some (.int .i64 y.k) := sb0.cell 0
        have r10 : (wr.alloc (.cells #[.int .i64 y.k, .string y.s, .slice an' y.ns.length cn', .slice ap' y.ps.length cp'] 53)).cell? ⟨wr.heap.size, 1, none⟩ = some (.string y.s) := sb0.cell 1
        have r20 : (wr.alloc (.cells #[.int .i64 y.k, .string y.s, .slice an' y.ns.length cn', .slice ap' y.ps.length cp'] 53)).cell? ⟨wr.heap.size, 2, none⟩ = some (.slice an' y.ns.length cn') := sb0.cell 2
        have r30 : (wr.alloc (.cells #[.int .i64 y.k, .string y.s, .slice an' y.ns.length cn', .slice ap' y.ps.length cp'] 53)).cell? ⟨wr.heap.size, 3, none⟩ = some (.slice ap' y.ps.length cp') := sb0.cell 3
        have hnc0 : (wr.alloc (.cells #[.int .i64 y.k, .string y.s, .slice an' y.ns.length cn', .slice ap' y.ps.length cp'] 53)).cell? ⟨bn, on + k, none⟩ = some (.string nm) := ((hbw.trans sb0.bel).cell (p := ⟨bn, on + k, none⟩) hbn).trans hnc
        clear hr hs
        go_wp2_with fail
        refine (wStr nm sb0.bld (by simp only [List.length_append, List.length_cons, List.length_nil, hvl] at hl hlen ⊢; omega) sb0.le).mono ?_
        rintro e w1 ⟨rfl, h1, h2, h3⟩
        have sb1 := sb0.write hke h1 h2 h3
        clear h1 h2 h3
        have r01 : w1.cell? ⟨wr.heap.size, 0, none⟩ = some (.int .i64 y.k) := sb1.cell 0
        have r11 : w1.cell? ⟨wr.heap.size, 1, none⟩ = some (.string y.s) := sb1.cell 1
        have r21 : w1.cell? ⟨wr.heap.size, 2, none⟩ = some (.slice an' y.ns.length cn') := sb1.cell 2
        have r31 : w1.cell? ⟨wr.heap.size, 3, none⟩ = some (.slice ap' y.ps.length cp') := sb1.cell 3
        have hnc1 : w1.cell? ⟨bn, on + k, none⟩ = some (.string nm) := ((hbw.trans sb1.bel).cell (p := ⟨bn, on + k, none⟩) hbn).trans hnc
        go_wp2_with fail
        refine (wByte 58 58 rfl sb1.bld (by simp only [List.length_append, List.length_cons, List.length_nil, hvl] at hl hlen ⊢; omega) sb1.le).mono ?_
        rintro e w2 ⟨rfl, h1, h2, h3⟩
        have sb2 := sb1.write hke h1 h2 h3
        clear h1 h2 h3
        have r02 : w2.cell? ⟨wr.heap.size, 0, none⟩ = some (.int .i64 y.k) := sb2.cell 0
        have r12 : w2.cell? ⟨wr.heap.size, 1, none⟩ = some (.string y.s) := sb2.cell 1
        have r22 : w2.cell? ⟨wr.heap.size, 2, none⟩ = some (.slice an' y.ns.length cn') := sb2.cell 2
        have r32 : w2.cell? ⟨wr.heap.size, 3, none⟩ = some (.slice ap' y.ps.length cp') := sb2.cell 3
        have hnc2 : w2.cell? ⟨bn, on + k, none⟩ = some (.string nm) := ((hbw.trans sb2.bel).cell (p := ⟨bn, on + k, none⟩) hbn).trans hnc
        go_wp2_with fail
        refine (nodeOf_any y.k y.s an' y.ns.length cn' ap' y.ps.length cp' _).mono ?_
        rintro e w3 ⟨rfl, h2⟩
        have sb3 := sb2.below h2
        clear h2
        have r03 : w3.cell? ⟨wr.heap.size, 0, none⟩ = some (.int .i64 y.k) := sb3.cell 0
        have r13 : w3.cell? ⟨wr.heap.size, 1, none⟩ = some (.string y.s) := sb3.cell 1
        have r23 : w3.cell? ⟨wr.heap.size, 2, none⟩ = some (.slice an' y.ns.length cn') := sb3.cell 2
        have r33 : w3.cell? ⟨wr.heap.size, 3, none⟩ = some (.slice ap' y.ps.length cp') := sb3.cell 3
        have hnc3 : w3.cell? ⟨bn, on + k, none⟩ = some (.string nm) := ((hbw.trans sb3.bel).cell (p := ⟨bn, on + k, none⟩) hbn).trans hnc
        go_wp2_with fail
        refine (ih n y _ _ B b _ (hRr.below sb3.bel) sb3.bld (by simp only [List.length_append, List.length_cons, List.length_nil, hvl] at hl hlen ⊢; omega) sb3.le).mono ?_
        rintro e w9 ⟨rfl, h1, h2, h3⟩
        have hB9 : Below B w w9 := hbw.trans (sb3.bel.trans h2)
        have hK9 : Lib.OthersKept 5 (some b) w w9 := hkp.trans (sb3.kep.trans h3)
        cases hok : rdOk m y with
        | false =>
          have HF := Lib.hid (show x.ps.all (rdOk m) = false by rw [HALL.out, HD.out, hok]; rfl)
          clear hok h1
          go_wp2_with fail
          go_ret
          exact ⟨by rw [HF.out]; rfl, fun h => absurd (HF.out.symm.trans h) (by decide), hB9, hK9⟩
        | true =>
          have HF := Lib.hid (show x.ps.all (rdOk m) = (x.ps.drop (k + 1)).all (rdOk m) by rw [HALL.out, HD.out, hok]; rfl)
          have h1' := h1 hok
          clear hok h1
          go_wp2_with fail
          go_roundw
          case rel =>
            refine ⟨k + 1, acc ++ (vbl nm ++ [58] ++ vtxt m y), by omega, by go_num, ?_, hB9, hK9, ?_, Lib.hid HF.out⟩
            · simpa only [List.append_assoc] using h1'
            · rw [HACC.out, HP.out, HKZ.out]; simp [List.append_assoc]
          case measure => simp [intOf]; omega
      · skip
        have hk1 : decide (0 < k) = true := by simp; omega
        have HKZ : Hid ((k == 0) = false) := Lib.hid (by simpa using hkz)
        clear hkz
        have hkn : k < x.ns.length := by have := HNS.out; omega
        have hn0 : decide (0 < x.ns.length) = true := decide_eq_true (by omega)
        have HH := Lib.hid (head_drop x.ns k hkn)
        rw [HH.out] at HP
        obtain ⟨bn, on, rfl, hbn, hnz, hnc⟩ := hs.at_ hkn
        generalize hnm : x.ns[k] = nm at *
        clear hnm HH
        have hl := congrArg List.length HACC.out
        rw [HP.out] at hl
        simp only [List.length_append, List.length_cons, List.length_nil, if_true, if_false, Bool.false_eq_true, reduceIte, HKZ.out] at hl
        have hvl : ∀ z : ByteArray, (vbl z).length = z.size := fun _ => rfl
        have r00 : (wr.alloc (.cells #[.int .i64 y.k, .string y.s, .slice an' y.ns.length cn', .slice ap' y.ps.length cp'] 53)).cell? ⟨wr.heap.size, 0, none⟩ = some (.int .i64 y.k) := sb0.cell 0
        have r10 : (wr.alloc (.cells #[.int .i64 y.k, .string y.s, .slice an' y.ns.length cn', .slice ap' y.ps.length cp'] 53)).cell? ⟨wr.heap.size, 1, none⟩ = some (.string y.s) := sb0.cell 1
        have r20 : (wr.alloc (.cells #[.int .i64 y.k, .string y.s, .slice an' y.ns.length cn', .slice ap' y.ps.length cp'] 53)).cell? ⟨wr.heap.size, 2, none⟩ = some (.slice an' y.ns.length cn') := sb0.cell 2
        have r30 : (wr.alloc (.cells #[.int .i64 y.k, .string y.s, .slice an' y.ns.length cn', .slice ap' y.ps.length cp'] 53)).cell? ⟨wr.heap.size, 3, none⟩ = some (.slice ap' y.ps.length cp') := sb0.cell 3
        have hnc0 : (wr.alloc (.cells #[.int .i64 y.k, .string y.s, .slice an' y.ns.length cn', .slice ap' y.ps.length cp'] 53)).cell? ⟨bn, on + k, none⟩ = some (.string nm) := ((hbw.trans sb0.bel).cell (p := ⟨bn, on + k, none⟩) hbn).trans hnc
        clear hr hs
        go_wp2_with fail
        refine (wByte 32 32 rfl sb0.bld (by simp only [List.length_append, List.length_cons, List.length_nil, hvl] at hl hlen ⊢; omega) sb0.le).mono ?_
        rintro e w1 ⟨rfl, h1, h2, h3⟩
        have sb1 := sb0.write hke h1 h2 h3
        clear h1 h2 h3
        have r01 : w1.cell? ⟨wr.heap.size, 0, none⟩ = some (.int .i64 y.k) := sb1.cell 0
        have r11 : w1.cell? ⟨wr.heap.size, 1, none⟩ = some (.string y.s) := sb1.cell 1
        have r21 : w1.cell? ⟨wr.heap.size, 2, none⟩ = some (.slice an' y.ns.length cn') := sb1.cell 2
        have r31 : w1.cell? ⟨wr.heap.size, 3, none⟩ = some (.slice ap' y.ps.length cp') := sb1.cell 3
        have hnc1 : w1.cell? ⟨bn, on + k, none⟩ = some (.string nm) := ((hbw.trans sb1.bel).cell (p := ⟨bn, on + k, none⟩) hbn).trans hnc
        go_wp2_with fail
        refine (wStr nm sb1.bld (by simp only [List.length_append, List.length_cons, List.length_nil, hvl] at hl hlen ⊢; omega) sb1.le).mono ?_
        rintro e w2 ⟨rfl, h1, h2, h3⟩
        have sb2 := sb1.write hke h1 h2 h3
        clear h1 h2 h3
        have r02 : w2.cell? ⟨wr.heap.size, 0, none⟩ = some (.int .i64 y.k) := sb2.cell 0
        have r12 : w2.cell? ⟨wr.heap.size, 1, none⟩ = some (.string y.s) := sb2.cell 1
        have r22 : w2.cell? ⟨wr.heap.size, 2, none⟩ = some (.slice an' y.ns.length cn') := sb2.cell 2
        have r32 : w2.cell? ⟨wr.heap.size, 3, none⟩ = some (.slice ap' y.ps.length cp') := sb2.cell 3
        have hnc2 : w2.cell? ⟨bn, on + k, none⟩ = some (.string nm) := ((hbw.trans sb2.bel).cell (p := ⟨bn, on + k, none⟩) hbn).trans hnc
        go_wp2_with fail
        refine (wByte 58 58 rfl sb2.bld (by simp only [List.length_append, List.length_cons, List.length_nil, hvl] at hl hlen ⊢; omega) sb2.le).mono ?_
        rintro e w3 ⟨rfl, h1, h2, h3⟩
        have sb3 := sb2.write hke h1 h2 h3
        clear h1 h2 h3
        have r03 : w3.cell? ⟨wr.heap.size, 0, none⟩ = some (.int .i64 y.k) := sb3.cell 0
        have r13 : w3.cell? ⟨wr.heap.size, 1, none⟩ = some (.string y.s) := sb3.cell 1
        have r23 : w3.cell? ⟨wr.heap.size, 2, none⟩ = some (.slice an' y.ns.length cn') := sb3.cell 2
        have r33 : w3.cell? ⟨wr.heap.size, 3, none⟩ = some (.slice ap' y.ps.length cp') := sb3.cell 3
        have hnc3 : w3.cell? ⟨bn, on + k, none⟩ = some (.string nm) := ((hbw.trans sb3.bel).cell (p := ⟨bn, on + k, none⟩) hbn).trans hnc
        go_wp2_with fail
        refine (nodeOf_any y.k y.s an' y.ns.length cn' ap' y.ps.length cp' _).mono ?_
        rintro e w4 ⟨rfl, h2⟩
        have sb4 := sb3.below h2
        clear h2
        have r04 : w4.cell? ⟨wr.heap.size, 0, none⟩ = some (.int .i64 y.k) := sb4.cell 0
        have r14 : w4.cell? ⟨wr.heap.size, 1, none⟩ = some (.string y.s) := sb4.cell 1
        have r24 : w4.cell? ⟨wr.heap.size, 2, none⟩ = some (.slice an' y.ns.length cn') := sb4.cell 2
        have r34 : w4.cell? ⟨wr.heap.size, 3, none⟩ = some (.slice ap' y.ps.length cp') := sb4.cell 3
        have hnc4 : w4.cell? ⟨bn, on + k, none⟩ = some (.string nm) := ((hbw.trans sb4.bel).cell (p := ⟨bn, on + k, none⟩) hbn).trans hnc
        go_wp2_with fail
        refine (ih n y _ _ B b _ (hRr.below sb4.bel) sb4.bld (by simp only [List.length_append, List.length_cons, List.length_nil, hvl] at hl hlen ⊢; omega) sb4.le).mono ?_
        rintro e w9 ⟨rfl, h1, h2, h3⟩
        have hB9 : Below B w w9 := hbw.trans (sb4.bel.trans h2)
        have hK9 : Lib.OthersKept 5 (some b) w w9 := hkp.trans (sb4.kep.trans h3)
        cases hok : rdOk m y with
        | false =>
          have HF := Lib.hid (show x.ps.all (rdOk m) = false by rw [HALL.out, HD.out, hok]; rfl)
          clear hok h1
          go_wp2_with fail
          go_ret
          exact ⟨by rw [HF.out]; rfl, fun h => absurd (HF.out.symm.trans h) (by decide), hB9, hK9⟩
        | true =>
          have HF := Lib.hid (show x.ps.all (rdOk m) = (x.ps.drop (k + 1)).all (rdOk m) by rw [HALL.out, HD.out, hok]; rfl)
          have h1' := h1 hok
          clear hok h1
          go_wp2_with fail
          go_roundw
          case rel =>
            refine ⟨k + 1, acc ++ ([32] ++ vbl nm ++ [58] ++ vtxt m y), by omega, by go_num, ?_, hB9, hK9, ?_, Lib.hid HF.out⟩
            · simpa only [List.append_assoc] using h1'
            · rw [HACC.out, HP.out, HKZ.out]; simp [List.append_assoc]
          case measure => simp [intOf]; omega
    · have HF := Lib.hid (show x.ps.all (rdOk m) = true by rw [HALL.out, List.drop_of_length_le (by omega)]; rfl)
      have HE : Hid (T = acc) := Lib.hid (by rw [HACC.out, List.drop_of_length_le (i := k) (l := x.ps) (by omega)]; simp [vpts])
      have hle : bs.length + (bg.size + (acc.length + en.size)) ≤ 140737488355328 := by rw [← HE.out]; exact hlen
      have HW2 := wStr en hb0 (by simp only [List.length_append, hvl]; omega) hBr
      clear HW hbld
      go_wp2_with fail
      refine HW2.mono ?_
      rintro e w9 ⟨rfl, h1, h2, h3⟩
      go_wp2_with fail
      go_ret
      refine ⟨by rw [HF.out]; rfl, fun _ => ?_, hbw.trans h2, hkp.trans h3⟩
      rw [HE.out]
      simpa only [List.append_assoc] using h1

end Go.Proofs.YtkfllppggjhhmaaGreatDoor
