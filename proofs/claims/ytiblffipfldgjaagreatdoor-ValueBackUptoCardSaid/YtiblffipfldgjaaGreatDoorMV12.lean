/-
  What value.writeParts writes.
-/
import Derived.Test.YtiblffipfldgjaaGreatDoorMV10
import Derived.Test.YtiblffipfldgjaaGreatDoorBString
namespace Go.Proofs.YtiblffipfldgjaaGreatDoor
open Go.RowKit
set_option linter.unusedSimpArgs false

/-- What write answers: whether the value may be read; then its text is written. -/
def WOut (B b : Nat) (ok : Bool) (l : List UInt8) (w : World) (e : Ending) (w' : World) : Prop :=
  e = .returned (.bool ok) ∧ (ok = true → Bld 49 B b [] (Lib.byteCells l) w') ∧ Below B w w' ∧ Lib.OthersKept 5 (some b) w w'
/-- What write does at values of at most m levels, d deep. -/
def WValV (m d : Nat) : Prop := ∀ (n : Nat) (x : JV) (v : Value) (w : World) (B b : Nat) (bs : List UInt8), Rd w B n x v → Bld 49 B b [] (Lib.byteCells bs) w → bs.length + (vtxt m x).length ≤ 140737488355328 → B ≤ w.heap.size →
    Calls Tryz.prog 16 #[.pointer (some ⟨b, 0, none⟩), nodeV x.k v, .int .i64 d] w (WOut B b (rdOk m x) (bs ++ vtxt m x) w)

theorem vpts_step (f : JV → List UInt8) (ob : Bool) (ns : List ByteArray) (ps : List JV) (k : Nat) (h : k < ps.length) :
    vpts f ob (k == 0) (ns.drop k) (ps.drop k) = (if k == 0 then [] else [32]) ++ ((if ob then vbl ((ns.drop k).headD ⟨#[]⟩) ++ [58] else []) ++ (f ps[k] ++ vpts f ob false (ns.drop (k + 1)) (ps.drop (k + 1)))) := by
  rw [List.drop_eq_getElem_cons h]
  conv => lhs; unfold vpts
  rw [List.tail_drop]
def PartsRelV (B b : Nat) (T : List UInt8) (f : JV → List UInt8) (rd : JV → Bool) (ob : Bool) (x : JV) (bs : List UInt8) (w : World) (i : Value) (wr : World) : Prop :=
  ∃ (k : Nat) (acc : List UInt8), k ≤ x.ps.length ∧ i = .int .i64 k ∧ Bld 49 B b [] (Lib.byteCells (bs ++ acc)) wr ∧ Below B w wr ∧ Lib.OthersKept 5 (some b) w wr ∧
    T = acc ++ vpts f ob (k == 0) (x.ns.drop k) (x.ps.drop k) ∧ Hid (x.ps.all rd = (x.ps.drop k).all rd)

set_option maxHeartbeats 4000000 in
set_option maxRecDepth 100000 in
theorem vwriteParts_list (m d : Nat) (ih : WValV m (d + 1)) (hd : d ≤ 12) (n : Nat) (x : JV) (ap : Option Addr) (cp : Nat) (bg en : ByteArray) (w : World) (B b : Nat) (bs : List UInt8) (hr : Rows4 w B (Rd w B n) ap x.ps) (z3 : x.ps.length ≤ 2000000) (_z5 : x.ps.length ≤ cp)
    (hbld : Bld 49 B b [] (Lib.byteCells bs) w) (hlen : bs.length + (bg.size + ((vpts (vtxt m) false true x.ns x.ps).length + en.size)) ≤ 140737488355328) (hB : B ≤ w.heap.size) :
    Calls Tryz.prog 30 #[.pointer (some ⟨b, 0, none⟩), .string bg, .slice none 0 0, .slice ap x.ps.length cp, .string en, .int .i64 d] w (WOut B b (x.ps.all (rdOk m)) (bs ++ (vbl bg ++ (vpts (vtxt m) false true x.ns x.ps ++ vbl en))) w) := by
  have hvl : ∀ z : ByteArray, (vbl z).length = z.size := fun _ => rfl
  have hd12 : decide ((12 : Int) < (d : Int)) = false := decide_eq_false (by omega)
  have hwrap : IntKind.i64.wrap ((d : Int) + 1) = (d : Int) + 1 := IntWalk.i64_in _ (by omega)
  have HIH := Lib.hid ih
  generalize hT : vpts (vtxt m) false true x.ns x.ps = T at *
  have HT := Lib.hid hT
  have hbl := hbld.lt
  have HW := wStr bg hbld (by rw [hvl]; omega) hB
  clear hT ih
  go_enter Tryz.func30, Tryz.ntmps30
  go_wp2_with fail
  refine HW.mono ?_
  rintro e w0 ⟨rfl, hb0', hB0, hK0⟩
  go_wp2_with fail
  go_loopw [13, 14, 22] (fun _ _ i wr => PartsRelV B b T (vtxt m) (rdOk m) false x (bs ++ vbl bg) w i wr) (fun _ _ i _ => x.ps.length - (intOf i).toNat)
  case atStart => exact ⟨0, [], Nat.zero_le _, rfl, by rw [List.append_nil]; exact hb0', hB0, hK0, HT.out.symm, Lib.hid (by rw [List.drop_zero])⟩
  case round =>
    obtain ⟨k, acc, hk, rfl, hb0, hbw, hkp, hacc, HALL⟩ := hrel
    have HACC := Lib.hid hacc
    clear hacc
    have hBr : B ≤ wr.heap.size := Nat.le_trans hB hbw.size
    by_cases hlt : k < x.ps.length
    · have HP := Lib.hid (vpts_step (vtxt m) false x.ns x.ps k hlt)
      have HD := Lib.hid (show (x.ps.drop k).all (rdOk m) = (rdOk m x.ps[k] && (x.ps.drop (k + 1)).all (rdOk m)) by rw [List.drop_eq_getElem_cons hlt, List.all_cons])
      obtain ⟨b', off, y, an', cn', ap', cp', HY, rfl, hb', hRr, g0, g1, g2, g3⟩ := hr.elem hlt hbw
      rw [HY.out] at HP HD
      clear HY
      have hke : wr.heap.size ≠ b := by have := hb0.lt; omega
      have sb0 : Sb B b wr.heap.size #[.int .i64 y.k, .string y.s, .slice an' y.ns.length cn', .slice ap' y.ps.length cp'] (bs ++ vbl bg ++ acc) wr (wr.alloc (.cells #[.int .i64 y.k, .string y.s, .slice an' y.ns.length cn', .slice ap' y.ps.length cp'] 25)) :=
        ⟨hb0.alloc _, (Below.refl _ _).alloc hBr _, (Lib.OthersKept.refl _ _ _).alloc _, heap_alloc_new _ _, by simp; omega⟩
      have ih := HIH.out
      clear HIH hbld HW HT
      by_cases hkz : k = 0
      · skip
        have hk1 : decide (0 < k) = false := by simp; omega
        have HKZ : Hid ((k == 0) = true) := Lib.hid (by simpa using hkz)
        clear hkz
        have hl := congrArg List.length HACC.out
        rw [HP.out] at hl
        simp only [List.length_append, List.length_cons, List.length_nil, if_true, if_false, Bool.false_eq_true, reduceIte, HKZ.out] at hl
        have hvl : ∀ z : ByteArray, (vbl z).length = z.size := fun _ => rfl
        have r00 : (wr.alloc (.cells #[.int .i64 y.k, .string y.s, .slice an' y.ns.length cn', .slice ap' y.ps.length cp'] 25)).cell? ⟨wr.heap.size, 0, none⟩ = some (.int .i64 y.k) := sb0.cell 0
        have r10 : (wr.alloc (.cells #[.int .i64 y.k, .string y.s, .slice an' y.ns.length cn', .slice ap' y.ps.length cp'] 25)).cell? ⟨wr.heap.size, 1, none⟩ = some (.string y.s) := sb0.cell 1
        have r20 : (wr.alloc (.cells #[.int .i64 y.k, .string y.s, .slice an' y.ns.length cn', .slice ap' y.ps.length cp'] 25)).cell? ⟨wr.heap.size, 2, none⟩ = some (.slice an' y.ns.length cn') := sb0.cell 2
        have r30 : (wr.alloc (.cells #[.int .i64 y.k, .string y.s, .slice an' y.ns.length cn', .slice ap' y.ps.length cp'] 25)).cell? ⟨wr.heap.size, 3, none⟩ = some (.slice ap' y.ps.length cp') := sb0.cell 3
        clear hr
        go_wp2_with fail
        refine (nodeOf_any y.k y.s an' y.ns.length cn' ap' y.ps.length cp' _).mono ?_
        rintro e w1 ⟨rfl, h2⟩
        have sb1 := sb0.below h2
        clear h2
        have r01 : w1.cell? ⟨wr.heap.size, 0, none⟩ = some (.int .i64 y.k) := sb1.cell 0
        have r11 : w1.cell? ⟨wr.heap.size, 1, none⟩ = some (.string y.s) := sb1.cell 1
        have r21 : w1.cell? ⟨wr.heap.size, 2, none⟩ = some (.slice an' y.ns.length cn') := sb1.cell 2
        have r31 : w1.cell? ⟨wr.heap.size, 3, none⟩ = some (.slice ap' y.ps.length cp') := sb1.cell 3
        go_wp2_with fail
        refine (ih n y _ _ B b _ (hRr.below sb1.bel) sb1.bld (by simp only [List.length_append, List.length_cons, List.length_nil, hvl] at hl hlen ⊢; omega) sb1.le).mono ?_
        rintro e w9 ⟨rfl, h1, h2, h3⟩
        have hB9 : Below B w w9 := hbw.trans (sb1.bel.trans h2)
        have hK9 : Lib.OthersKept 5 (some b) w w9 := hkp.trans (sb1.kep.trans h3)
        cases hok : rdOk m y with
        | false =>
          have HF := Lib.hid (show x.ps.all (rdOk m) = false by rw [HALL.out, HD.out, hok]; rfl)
          clear hok h1
          go_wp2_with fail
          go_ret
          exact ⟨by rw [HF.out]; rfl, fun h => absurd (HF.out.symm.trans h) (by decide), hB9, hK9⟩
        | true =>
          have HF := Lib.hid (show x.ps.all (rdOk m) = (x.ps.drop (k + 1)).all (rdOk m) by rw [HALL.out, HD.out, hok]; rfl)
          have h1' := h1 hok
          clear hok h1
          go_wp2_with fail
          go_roundw
          case rel =>
            refine ⟨k + 1, acc ++ (vtxt m y), by omega, by go_num, ?_, hB9, hK9, ?_, Lib.hid HF.out⟩
            · simpa only [List.append_assoc] using h1'
            · rw [HACC.out, HP.out, HKZ.out]; simp [List.append_assoc]
          case measure => simp [intOf]; omega
      · skip
        have hk1 : decide (0 < k) = true := by simp; omega
        have HKZ : Hid ((k == 0) = false) := Lib.hid (by simpa using hkz)
        clear hkz
        have hl := congrArg List.length HACC.out
        rw [HP.out] at hl
        simp only [List.length_append, List.length_cons, List.length_nil, if_true, if_false, Bool.false_eq_true, reduceIte, HKZ.out] at hl
        have hvl : ∀ z : ByteArray, (vbl z).length = z.size := fun _ => rfl
        have r00 : (wr.alloc (.cells #[.int .i64 y.k, .string y.s, .slice an' y.ns.length cn', .slice ap' y.ps.length cp'] 25)).cell? ⟨wr.heap.size, 0, none⟩ = some (.int .i64 y.k) := sb0.cell 0
        have r10 : (wr.alloc (.cells #[.int .i64 y.k, .string y.s, .slice an' y.ns.length cn', .slice ap' y.ps.length cp'] 25)).cell? ⟨wr.heap.size, 1, none⟩ = some (.string y.s) := sb0.cell 1
        have r20 : (wr.alloc (.cells #[.int .i64 y.k, .string y.s, .slice an' y.ns.length cn', .slice ap' y.ps.length cp'] 25)).cell? ⟨wr.heap.size, 2, none⟩ = some (.slice an' y.ns.length cn') := sb0.cell 2
        have r30 : (wr.alloc (.cells #[.int .i64 y.k, .string y.s, .slice an' y.ns.length cn', .slice ap' y.ps.length cp'] 25)).cell? ⟨wr.heap.size, 3, none⟩ = some (.slice ap' y.ps.length cp') := sb0.cell 3
        clear hr
        go_wp2_with fail
        refine (wByte 32 32 rfl sb0.bld (by simp only [List.length_append, List.length_cons, List.length_nil, hvl] at hl hlen ⊢; omega) sb0.le).mono ?_
        rintro e w1 ⟨rfl, h1, h2, h3⟩
        have sb1 := sb0.write hke h1 h2 h3
        clear h1 h2 h3
        have r01 : w1.cell? ⟨wr.heap.size, 0, none⟩ = some (.int .i64 y.k) := sb1.cell 0
        have r11 : w1.cell? ⟨wr.heap.size, 1, none⟩ = some (.string y.s) := sb1.cell 1
        have r21 : w1.cell? ⟨wr.heap.size, 2, none⟩ = some (.slice an' y.ns.length cn') := sb1.cell 2
        have r31 : w1.cell? ⟨wr.heap.size, 3, none⟩ = some (.slice ap' y.ps.length cp') := sb1.cell 3
        go_wp2_with fail
        refine (nodeOf_any y.k y.s an' y.ns.length cn' ap' y.ps.length cp' _).mono ?_
        rintro e w2 ⟨rfl, h2⟩
        have sb2 := sb1.below h2
        clear h2
        have r02 : w2.cell? ⟨wr.heap.size, 0, none⟩ = some (.int .i64 y.k) := sb2.cell 0
        have r12 : w2.cell? ⟨wr.heap.size, 1, none⟩ = some (.string y.s) := sb2.cell 1
        have r22 : w2.cell? ⟨wr.heap.size, 2, none⟩ = some (.slice an' y.ns.length cn') := sb2.cell 2
        have r32 : w2.cell? ⟨wr.heap.size, 3, none⟩ = some (.slice ap' y.ps.length cp') := sb2.cell 3
        go_wp2_with fail
        refine (ih n y _ _ B b _ (hRr.below sb2.bel) sb2.bld (by simp only [List.length_append, List.length_cons, List.length_nil, hvl] at hl hlen ⊢; omega) sb2.le).mono ?_
        rintro e w9 ⟨rfl, h1, h2, h3⟩
        have hB9 : Below B w w9 := hbw.trans (sb2.bel.trans h2)
        have hK9 : Lib.OthersKept 5 (some b) w w9 := hkp.trans (sb2.kep.trans h3)
        cases hok : rdOk m y with
        | false =>
          have HF := Lib.hid (show x.ps.all (rdOk m) = false by rw [HALL.out, HD.out, hok]; rfl)
          clear hok h1
          go_wp2_with fail
          go_ret
          exact ⟨by rw [HF.out]; rfl, fun h => absurd (HF.out.symm.trans h) (by decide), hB9, hK9⟩
        | true =>
          have HF := Lib.hid (show x.ps.all (rdOk m) = (x.ps.drop (k + 1)).all (rdOk m) by rw [HALL.out, HD.out, hok]; rfl)
          have h1' := h1 hok
          clear hok h1
          go_wp2_with fail
          go_roundw
          case rel =>
            refine ⟨k + 1, acc ++ ([32] ++ vtxt m y), by omega, by go_num, ?_, hB9, hK9, ?_, Lib.hid HF.out⟩
            · simpa only [List.append_assoc] using h1'
            · rw [HACC.out, HP.out, HKZ.out]; simp [List.append_assoc]
          case measure => simp [intOf]; omega
    · have HF := Lib.hid (show x.ps.all (rdOk m) = true by rw [HALL.out, List.drop_of_length_le (by omega)]; rfl)
      have HE : Hid (T = acc) := Lib.hid (by rw [HACC.out, List.drop_of_length_le (i := k) (l := x.ps) (by omega)]; simp [vpts])
      have hle : bs.length + (bg.size + (acc.length + en.size)) ≤ 140737488355328 := by rw [← HE.out]; exact hlen
      have HW2 := wStr en hb0 (by simp only [List.length_append, hvl]; omega) hBr
      clear HW hbld
      go_wp2_with fail
      refine HW2.mono ?_
      rintro e w9 ⟨rfl, h1, h2, h3⟩
      go_wp2_with fail
      go_ret
      refine ⟨by rw [HF.out]; rfl, fun _ => ?_, hbw.trans h2, hkp.trans h3⟩
      rw [HE.out]
      simpa only [List.append_assoc] using h1

set_option maxHeartbeats 4000000 in
set_option maxRecDepth 100000 in
theorem vwriteParts_obj (m d : Nat) (ih : WValV m (d + 1)) (hd : d ≤ 12) (n : Nat) (x : JV) (an : Option Addr) (cn : Nat) (ap : Option Addr) (cp : Nat) (bg en : ByteArray) (w : World) (B b : Nat) (bs : List UInt8) (hs : Strs w B an x.ns) (hr : Rows4 w B (Rd w B n) ap x.ps) (z2 : x.ns.length ≤ 2000000) (_z3 : x.ps.length ≤ 2000000) (_z4 : x.ns.length ≤ cn) (_z5 : x.ps.length ≤ cp) (hns : x.ns.length = x.ps.length)
    (hbld : Bld 49 B b [] (Lib.byteCells bs) w) (hlen : bs.length + (bg.size + ((vpts (vtxt m) true true x.ns x.ps).length + en.size)) ≤ 140737488355328) (hB : B ≤ w.heap.size) :
    Calls Tryz.prog 30 #[.pointer (some ⟨b, 0, none⟩), .string bg, .slice an x.ns.length cn, .slice ap x.ps.length cp, .string en, .int .i64 d] w (WOut B b (x.ps.all (rdOk m)) (bs ++ (vbl bg ++ (vpts (vtxt m) true true x.ns x.ps ++ vbl en))) w) := by
  have hvl : ∀ z : ByteArray, (vbl z).length = z.size := fun _ => rfl
  have hd12 : decide ((12 : Int) < (d : Int)) = false := decide_eq_false (by omega)
  have hwrap : IntKind.i64.wrap ((d : Int) + 1) = (d : Int) + 1 := IntWalk.i64_in _ (by omega)
  have HIH := Lib.hid ih
  have HNS : Hid (x.ns.length = x.ps.length) := Lib.hid hns
  generalize hT : vpts (vtxt m) true true x.ns x.ps = T at *
  have HT := Lib.hid hT
  have hbl := hbld.lt
  have HW := wStr bg hbld (by rw [hvl]; omega) hB
  clear hT ih hns
  go_enter Tryz.func30, Tryz.ntmps30
  go_wp2_with fail
  refine HW.mono ?_
  rintro e w0 ⟨rfl, hb0', hB0, hK0⟩
  go_wp2_with fail
  go_loopw [13, 14, 22] (fun _ _ i wr => PartsRelV B b T (vtxt m) (rdOk m) true x (bs ++ vbl bg) w i wr) (fun _ _ i _ => x.ps.length - (intOf i).toNat)
  case atStart => exact ⟨0, [], Nat.zero_le _, rfl, by rw [List.append_nil]; exact hb0', hB0, hK0, HT.out.symm, Lib.hid (by rw [List.drop_zero])⟩
  case round =>
    obtain ⟨k, acc, hk, rfl, hb0, hbw, hkp, hacc, HALL⟩ := hrel
    have HACC := Lib.hid hacc
    clear hacc
    have hBr : B ≤ wr.heap.size := Nat.le_trans hB hbw.size
    by_cases hlt : k < x.ps.length
    · have HP := Lib.hid (vpts_step (vtxt m) true x.ns x.ps k hlt)
      have HD := Lib.hid (show (x.ps.drop k).all (rdOk m) = (rdOk m x.ps[k] && (x.ps.drop (k + 1)).all (rdOk m)) by rw [List.drop_eq_getElem_cons hlt, List.all_cons])
      obtain ⟨b', off, y, an', cn', ap', cp', HY, rfl, hb', hRr, g0, g1, g2, g3⟩ := hr.elem hlt hbw
      rw [HY.out] at HP HD
      clear HY
      have hke : wr.heap.size ≠ b := by have := hb0.lt; omega
      have sb0 : Sb B b wr.heap.size #[.int .i64 y.k, .string y.s, .slice an' y.ns.length cn', .slice ap' y.ps.length cp'] (bs ++ vbl bg ++ acc) wr (wr.alloc (.cells #[.int .i64 y.k, .string y.s, .slice an' y.ns.length cn', .slice ap' y.ps.length cp'] 25)) :=
        ⟨hb0.alloc _, (Below.refl _ _).alloc hBr _, (Lib.OthersKept.refl _ _ _).alloc _, heap_alloc_new _ _, by simp; omega⟩
      have ih := HIH.out
      clear HIH hbld HW HT
      by_cases hkz : k = 0
      · skip
        have hk1 : decide (0 < k) = false := by simp; omega
        have HKZ : Hid ((k == 0) = true) := Lib.hid (by simpa using hkz)
        clear hkz
        have hkn : k < x.ns.length := by have := HNS.out; omega
        have hn0 : decide (0 < x.ns.length) = true := decide_eq_true (by omega)
        have HH := Lib.hid (head_drop x.ns k hkn)
        rw [HH.out] at HP
        obtain ⟨bn, on, rfl, hbn, hnz, hnc⟩ := hs.at_ hkn
        generalize hnm : x.ns[k] = nm at *
        clear hnm HH
        have hl := congrArg List.length HACC.out
        rw [HP.out] at hl
        simp only [List.length_append, List.length_cons, List.length_nil, if_true, if_false, Bool.false_eq_true, reduceIte, HKZ.out] at hl
        have hvl : ∀ z : ByteArray, (vbl z).length = z.size := fun _ => rfl
        have r00 : (wr.alloc (.cells #[.int .i64 y.k, .string y.s, .slice an' y.ns.length cn', .slice ap' y.ps.length cp'] 25)).cell? ⟨wr.heap.size, 0, none⟩ = some (.int .i64 y.k) := sb0.cell 0
        have r10 : (wr.alloc (.cells #[.int .i64 y.k, .string y.s, .slice an' y.ns.length cn', .slice ap' y.ps.length cp'] 25)).cell? ⟨wr.heap.size, 1, none⟩ = some (.string y.s) := sb0.cell 1
        have r20 : (wr.alloc (.cells #[.int .i64 y.k, .string y.s, .slice an' y.ns.length cn', .slice ap' y.ps.length cp'] 25)).cell? ⟨wr.heap.size, 2, none⟩ = some (.slice an' y.ns.length cn') := sb0.cell 2
        have r30 : (wr.alloc (.cells #[.int .i64 y.k, .string y.s, .slice an' y.ns.length cn', .slice ap' y.ps.length cp'] 25)).cell? ⟨wr.heap.size, 3, none⟩ = some (.slice ap' y.ps.length cp') := sb0.cell 3
        have hnc0 : (wr.alloc (.cells #[.int .i64 y.k, .string y.s, .slice an' y.ns.length cn', .slice ap' y.ps.length cp'] 25)).cell? ⟨bn, on + k, none⟩ = some (.string nm) := ((hbw.trans sb0.bel).cell (p := ⟨bn, on + k, none⟩) hbn).trans hnc
        clear hr hs
        go_wp2_with fail
        refine (wStr nm sb0.bld (by simp only [List.length_append, List.length_cons, List.length_nil, hvl] at hl hlen ⊢; omega) sb0.le).mono ?_
        rintro e w1 ⟨rfl, h1, h2, h3⟩
        have sb1 := sb0.write hke h1 h2 h3
        clear h1 h2 h3
        have r01 : w1.cell? ⟨wr.heap.size, 0, none⟩ = some (.int .i64 y.k) := sb1.cell 0
        have r11 : w1.cell? ⟨wr.heap.size, 1, none⟩ = some (.string y.s) := sb1.cell 1
        have r21 : w1.cell? ⟨wr.heap.size, 2, none⟩ = some (.slice an' y.ns.length cn') := sb1.cell 2
        have r31 : w1.cell? ⟨wr.heap.size, 3, none⟩ = some (.slice ap' y.ps.length cp') := sb1.cell 3
        have hnc1 : w1.cell? ⟨bn, on + k, none⟩ = some (.string nm) := ((hbw.trans sb1.bel).cell (p := ⟨bn, on + k, none⟩) hbn).trans hnc
        go_wp2_with fail
        refine (wByte 58 58 rfl sb1.bld (by simp only [List.length_append, List.length_cons, List.length_nil, hvl] at hl hlen ⊢; omega) sb1.le).mono ?_
        rintro e w2 ⟨rfl, h1, h2, h3⟩
        have sb2 := sb1.write hke h1 h2 h3
        clear h1 h2 h3
        have r02 : w2.cell? ⟨wr.heap.size, 0, none⟩ = some (.int .i64 y.k) := sb2.cell 0
        have r12 : w2.cell? ⟨wr.heap.size, 1, none⟩ = some (.string y.s) := sb2.cell 1
        have r22 : w2.cell? ⟨wr.heap.size, 2, none⟩ = some (.slice an' y.ns.length cn') := sb2.cell 2
        have r32 : w2.cell? ⟨wr.heap.size, 3, none⟩ = some (.slice ap' y.ps.length cp') := sb2.cell 3
        have hnc2 : w2.cell? ⟨bn, on + k, none⟩ = some (.string nm) := ((hbw.trans sb2.bel).cell (p := ⟨bn, on + k, none⟩) hbn).trans hnc
        go_wp2_with fail
        refine (nodeOf_any y.k y.s an' y.ns.length cn' ap' y.ps.length cp' _).mono ?_
        rintro e w3 ⟨rfl, h2⟩
        have sb3 := sb2.below h2
        clear h2
        have r03 : w3.cell? ⟨wr.heap.size, 0, none⟩ = some (.int .i64 y.k) := sb3.cell 0
        have r13 : w3.cell? ⟨wr.heap.size, 1, none⟩ = some (.string y.s) := sb3.cell 1
        have r23 : w3.cell? ⟨wr.heap.size, 2, none⟩ = some (.slice an' y.ns.length cn') := sb3.cell 2
        have r33 : w3.cell? ⟨wr.heap.size, 3, none⟩ = some (.slice ap' y.ps.length cp') := sb3.cell 3
        have hnc3 : w3.cell? ⟨bn, on + k, none⟩ = some (.string nm) := ((hbw.trans sb3.bel).cell (p := ⟨bn, on + k, none⟩) hbn).trans hnc
        go_wp2_with fail
        refine (ih n y _ _ B b _ (hRr.below sb3.bel) sb3.bld (by simp only [List.length_append, List.length_cons, List.length_nil, hvl] at hl hlen ⊢; omega) sb3.le).mono ?_
        rintro e w9 ⟨rfl, h1, h2, h3⟩
        have hB9 : Below B w w9 := hbw.trans (sb3.bel.trans h2)
        have hK9 : Lib.OthersKept 5 (some b) w w9 := hkp.trans (sb3.kep.trans h3)
        cases hok : rdOk m y with
        | false =>
          have HF := Lib.hid (show x.ps.all (rdOk m) = false by rw [HALL.out, HD.out, hok]; rfl)
          clear hok h1
          go_wp2_with fail
          go_ret
          exact ⟨by rw [HF.out]; rfl, fun h => absurd (HF.out.symm.trans h) (by decide), hB9, hK9⟩
        | true =>
          have HF := Lib.hid (show x.ps.all (rdOk m) = (x.ps.drop (k + 1)).all (rdOk m) by rw [HALL.out, HD.out, hok]; rfl)
          have h1' := h1 hok
          clear hok h1
          go_wp2_with fail
          go_roundw
          case rel =>
            refine ⟨k + 1, acc ++ (vbl nm ++ [58] ++ vtxt m y), by omega, by go_num, ?_, hB9, hK9, ?_, Lib.hid HF.out⟩
            · simpa only [List.append_assoc] using h1'
            · rw [HACC.out, HP.out, HKZ.out]; simp [List.append_assoc]
          case measure => simp [intOf]; omega
      · skip
        have hk1 : decide (0 < k) = true := by simp; omega
        have HKZ : Hid ((k == 0) = false) := Lib.hid (by simpa using hkz)
        clear hkz
        have hkn : k < x.ns.length := by have := HNS.out; omega
        have hn0 : decide (0 < x.ns.length) = true := decide_eq_true (by omega)
        have HH := Lib.hid (head_drop x.ns k hkn)
        rw [HH.out] at HP
        obtain ⟨bn, on, rfl, hbn, hnz, hnc⟩ := hs.at_ hkn
        generalize hnm : x.ns[k] = nm at *
        clear hnm HH
        have hl := congrArg List.length HACC.out
        rw [HP.out] at hl
        simp only [List.length_append, List.length_cons, List.length_nil, if_true, if_false, Bool.false_eq_true, reduceIte, HKZ.out] at hl
        have hvl : ∀ z : ByteArray, (vbl z).length = z.size := fun _ => rfl
        have r00 : (wr.alloc (.cells #[.int .i64 y.k, .string y.s, .slice an' y.ns.length cn', .slice ap' y.ps.length cp'] 25)).cell? ⟨wr.heap.size, 0, none⟩ = some (.int .i64 y.k) := sb0.cell 0
        have r10 : (wr.alloc (.cells #[.int .i64 y.k, .string y.s, .slice an' y.ns.length cn', .slice ap' y.ps.length cp'] 25)).cell? ⟨wr.heap.size, 1, none⟩ = some (.string y.s) := sb0.cell 1
        have r20 : (wr.alloc (.cells #[.int .i64 y.k, .string y.s, .slice an' y.ns.length cn', .slice ap' y.ps.length cp'] 25)).cell? ⟨wr.heap.size, 2, none⟩ = some (.slice an' y.ns.length cn') := sb0.cell 2
        have r30 : (wr.alloc (.cells #[.int .i64 y.k, .string y.s, .slice an' y.ns.length cn', .slice ap' y.ps.length cp'] 25)).cell? ⟨wr.heap.size, 3, none⟩ = some (.slice ap' y.ps.length cp') := sb0.cell 3
        have hnc0 : (wr.alloc (.cells #[.int .i64 y.k, .string y.s, .slice an' y.ns.length cn', .slice ap' y.ps.length cp'] 25)).cell? ⟨bn, on + k, none⟩ = some (.string nm) := ((hbw.trans sb0.bel).cell (p := ⟨bn, on + k, none⟩) hbn).trans hnc
        clear hr hs
        go_wp2_with fail
        refine (wByte 32 32 rfl sb0.bld (by simp only [List.length_append, List.length_cons, List.length_nil, hvl] at hl hlen ⊢; omega) sb0.le).mono ?_
        rintro e w1 ⟨rfl, h1, h2, h3⟩
        have sb1 := sb0.write hke h1 h2 h3
        clear h1 h2 h3
        have r01 : w1.cell? ⟨wr.heap.size, 0, none⟩ = some (.int .i64 y.k) := sb1.cell 0
        have r11 : w1.cell? ⟨wr.heap.size, 1, none⟩ = some (.string y.s) := sb1.cell 1
        have r21 : w1.cell? ⟨wr.heap.size, 2, none⟩ = some (.slice an' y.ns.length cn') := sb1.cell 2
        have r31 : w1.cell? ⟨wr.heap.size, 3, none⟩ = some (.slice ap' y.ps.length cp') := sb1.cell 3
        have hnc1 : w1.cell? ⟨bn, on + k, none⟩ = some (.string nm) := ((hbw.trans sb1.bel).cell (p := ⟨bn, on + k, none⟩) hbn).trans hnc
        go_wp2_with fail
        refine (wStr nm sb1.bld (by simp only [List.length_append, List.length_cons, List.length_nil, hvl] at hl hlen ⊢; omega) sb1.le).mono ?_
        rintro e w2 ⟨rfl, h1, h2, h3⟩
        have sb2 := sb1.write hke h1 h2 h3
        clear h1 h2 h3
        have r02 : w2.cell? ⟨wr.heap.size, 0, none⟩ = some (.int .i64 y.k) := sb2.cell 0
        have r12 : w2.cell? ⟨wr.heap.size, 1, none⟩ = some (.string y.s) := sb2.cell 1
        have r22 : w2.cell? ⟨wr.heap.size, 2, none⟩ = some (.slice an' y.ns.length cn') := sb2.cell 2
        have r32 : w2.cell? ⟨wr.heap.size, 3, none⟩ = some (.slice ap' y.ps.length cp') := sb2.cell 3
        have hnc2 : w2.cell? ⟨bn, on + k, none⟩ = some (.string nm) := ((hbw.trans sb2.bel).cell (p := ⟨bn, on + k, none⟩) hbn).trans hnc
        go_wp2_with fail
        refine (wByte 58 58 rfl sb2.bld (by simp only [List.length_append, List.length_cons, List.length_nil, hvl] at hl hlen ⊢; omega) sb2.le).mono ?_
        rintro e w3 ⟨rfl, h1, h2, h3⟩
        have sb3 := sb2.write hke h1 h2 h3
        clear h1 h2 h3
        have r03 : w3.cell? ⟨wr.heap.size, 0, none⟩ = some (.int .i64 y.k) := sb3.cell 0
        have r13 : w3.cell? ⟨wr.heap.size, 1, none⟩ = some (.string y.s) := sb3.cell 1
        have r23 : w3.cell? ⟨wr.heap.size, 2, none⟩ = some (.slice an' y.ns.length cn') := sb3.cell 2
        have r33 : w3.cell? ⟨wr.heap.size, 3, none⟩ = some (.slice ap' y.ps.length cp') := sb3.cell 3
        have hnc3 : w3.cell? ⟨bn, on + k, none⟩ = some (.string nm) := ((hbw.trans sb3.bel).cell (p := ⟨bn, on + k, none⟩) hbn).trans hnc
        go_wp2_with fail
        refine (nodeOf_any y.k y.s an' y.ns.length cn' ap' y.ps.length cp' _).mono ?_
        rintro e w4 ⟨rfl, h2⟩
        have sb4 := sb3.below h2
        clear h2
        have r04 : w4.cell? ⟨wr.heap.size, 0, none⟩ = some (.int .i64 y.k) := sb4.cell 0
        have r14 : w4.cell? ⟨wr.heap.size, 1, none⟩ = some (.string y.s) := sb4.cell 1
        have r24 : w4.cell? ⟨wr.heap.size, 2, none⟩ = some (.slice an' y.ns.length cn') := sb4.cell 2
        have r34 : w4.cell? ⟨wr.heap.size, 3, none⟩ = some (.slice ap' y.ps.length cp') := sb4.cell 3
        have hnc4 : w4.cell? ⟨bn, on + k, none⟩ = some (.string nm) := ((hbw.trans sb4.bel).cell (p := ⟨bn, on + k, none⟩) hbn).trans hnc
        go_wp2_with fail
        refine (ih n y _ _ B b _ (hRr.below sb4.bel) sb4.bld (by simp only [List.length_append, List.length_cons, List.length_nil, hvl] at hl hlen ⊢; omega) sb4.le).mono ?_
        rintro e w9 ⟨rfl, h1, h2, h3⟩
        have hB9 : Below B w w9 := hbw.trans (sb4.bel.trans h2)
        have hK9 : Lib.OthersKept 5 (some b) w w9 := hkp.trans (sb4.kep.trans h3)
        cases hok : rdOk m y with
        | false =>
          have HF := Lib.hid (show x.ps.all (rdOk m) = false by rw [HALL.out, HD.out, hok]; rfl)
          clear hok h1
          go_wp2_with fail
          go_ret
          exact ⟨by rw [HF.out]; rfl, fun h => absurd (HF.out.symm.trans h) (by decide), hB9, hK9⟩
        | true =>
          have HF := Lib.hid (show x.ps.all (rdOk m) = (x.ps.drop (k + 1)).all (rdOk m) by rw [HALL.out, HD.out, hok]; rfl)
          have h1' := h1 hok
          clear hok h1
          go_wp2_with fail
          go_roundw
          case rel =>
            refine ⟨k + 1, acc ++ ([32] ++ vbl nm ++ [58] ++ vtxt m y), by omega, by go_num, ?_, hB9, hK9, ?_, Lib.hid HF.out⟩
            · simpa only [List.append_assoc] using h1'
            · rw [HACC.out, HP.out, HKZ.out]; simp [List.append_assoc]
          case measure => simp [intOf]; omega
    · have HF := Lib.hid (show x.ps.all (rdOk m) = true by rw [HALL.out, List.drop_of_length_le (by omega)]; rfl)
      have HE : Hid (T = acc) := Lib.hid (by rw [HACC.out, List.drop_of_length_le (i := k) (l := x.ps) (by omega)]; simp [vpts])
      have hle : bs.length + (bg.size + (acc.length + en.size)) ≤ 140737488355328 := by rw [← HE.out]; exact hlen
      have HW2 := wStr en hb0 (by simp only [List.length_append, hvl]; omega) hBr
      clear HW hbld
      go_wp2_with fail
      refine HW2.mono ?_
      rintro e w9 ⟨rfl, h1, h2, h3⟩
      go_wp2_with fail
      go_ret
      refine ⟨by rw [HF.out]; rfl, fun _ => ?_, hbw.trans h2, hkp.trans h3⟩
      rw [HE.out]
      simpa only [List.append_assoc] using h1

end Go.Proofs.YtiblffipfldgjaaGreatDoor

/-
  What value.write and value.Text write.
-/
namespace Go.Proofs.YtiblffipfldgjaaGreatDoor
open Go.RowKit
set_option linter.unusedSimpArgs false

def zeroV4 : Value := .agg #[.int .i64 0, .string ⟨#[]⟩, .slice none 0 0, .slice none 0 0]
/-- Which parts may be read, m levels ahead. -/
def partsOk : Nat → JV → Bool
  | 0, _ => false
  | m + 1, x => x.ps.all (rdOk m)
theorem rdOk_eq (m : Nat) (x : JV) : rdOk m x = (selfV x && (!compV x || partsOk m x)) := by
  cases m with
  | zero => unfold rdOk partsOk; rw [Bool.or_false]
  | succ m => rfl

set_option maxHeartbeats 1000000 in
theorem vwriteParts_deep (d : Nat) (hd : 12 < d) (bg en : ByteArray) (v3 v4 : Value) (w : World) (B b : Nat) (l : List UInt8) (hB : B ≤ w.heap.size) :
    Calls Tryz.prog 30 #[.pointer (some ⟨b, 0, none⟩), .string bg, v3, v4, .string en, .int .i64 d] w (WOut B b false l w) := by
  have hd12 : decide ((12 : Int) < (d : Int)) = true := decide_eq_true (by omega)
  go_enter Tryz.func30, Tryz.ntmps30
  go_wp2_with fail
  go_ret
  exact ⟨rfl, fun h => absurd h (by decide), (Below.refl _ _).mono hB, Lib.OthersKept.refl _ _ _⟩

theorem WOut.after {B b : Nat} {ok : Bool} {l : List UInt8} {w W : World} {e : Ending} {w' : World} (h : WOut B b ok l W e w') (hb : Below B w W) (hk : Lib.OthersKept 5 (some b) w W) : WOut B b ok l w e w' :=
  ⟨h.1, h.2.1, hb.trans h.2.2.1, hk.trans h.2.2.2⟩

/-- What writeParts is asked at a list, at an object. -/
def PartsAt (m d : Nat) : Prop := ∀ (n : Nat) (x : JV) (an : Option Addr) (cn : Nat) (ap : Option Addr) (cp : Nat) (w : World) (B b : Nat) (bs : List UInt8), Strs w B an x.ns → Rows4 w B (Rd w B n) ap x.ps → x.ns.length ≤ 2000000 → x.ps.length ≤ 2000000 → x.ns.length ≤ cn → x.ps.length ≤ cp →
    Bld 49 B b [] (Lib.byteCells bs) w → bs.length + (vtxt m x).length ≤ 140737488355328 → B ≤ w.heap.size →
    (x.k = 7 → Calls Tryz.prog 30 #[.pointer (some ⟨b, 0, none⟩), .string ⟨#[91]⟩, .slice none 0 0, .slice ap x.ps.length cp, .string ⟨#[93]⟩, .int .i64 d] w (WOut B b (partsOk m x) (bs ++ vtxt m x) w)) ∧
    (x.k = 8 → x.ns.length = x.ps.length → Calls Tryz.prog 30 #[.pointer (some ⟨b, 0, none⟩), .string ⟨#[123]⟩, .slice an x.ns.length cn, .slice ap x.ps.length cp, .string ⟨#[125]⟩, .int .i64 d] w (WOut B b (partsOk m x) (bs ++ vtxt m x) w))
theorem partsAt_zero (d : Nat) (hd : 12 < d) : PartsAt 0 d := fun _ _ _ _ _ _ w B b _ _ _ _ _ _ _ _ _ hB => ⟨fun _ => vwriteParts_deep d hd _ _ _ _ w B b _ hB, fun _ _ => vwriteParts_deep d hd _ _ _ _ w B b _ hB⟩
theorem partsAt_succ (m d : Nat) (hd : d ≤ 12) (ih : WValV m (d + 1)) : PartsAt (m + 1) d := fun n x an cn ap cp w B b bs hs hr z2 z3 z4 z5 hbld hlen hB => by
  refine ⟨fun h7 => ?_, fun h8 hns => ?_⟩
  · have hT : vtxt (m + 1) x = [91] ++ (vpts (vtxt m) false true x.ns x.ps ++ [93]) := by unfold vtxt; rw [if_pos h7]
    rw [hT] at hlen ⊢
    exact vwriteParts_list m d ih hd n x ap cp ⟨#[91]⟩ ⟨#[93]⟩ w B b bs hr z3 z5 hbld (by simp only [List.length_append, List.length_cons, List.length_nil] at hlen; show bs.length + (1 + (_ + 1)) ≤ _; omega) hB
  · have hT : vtxt (m + 1) x = [123] ++ (vpts (vtxt m) true true x.ns x.ps ++ [125]) := by unfold vtxt; rw [if_neg (by omega), if_pos h8]
    rw [hT] at hlen ⊢
    exact vwriteParts_obj m d ih hd n x an cn ap cp ⟨#[123]⟩ ⟨#[125]⟩ w B b bs hs hr z2 z3 z4 z5 hns hbld (by simp only [List.length_append, List.length_cons, List.length_nil] at hlen; show bs.length + (1 + (_ + 1)) ≤ _; omega) hB

set_option maxHeartbeats 4000000 in
set_option maxRecDepth 100000 in
theorem vwrite_step (m d : Nat) (HP : PartsAt m d) : WValV m d := by
  intro n x v w B b bs h hbld hlen hB
  match n, h with
  | n + 1, h =>
  obtain ⟨an, cn, ap, cp, rfl, ⟨z1, z2, z3, z4, z5⟩, hs, hr⟩ := h
  have hbl := hbld.lt
  have HR := Lib.hid (rdOk_eq m x)
  by_cases h7 : x.k = 7
  · have HN := Lib.hid (show nodeV x.k (.agg #[.int .i64 x.k, .string x.s, .slice an x.ns.length cn, .slice ap x.ps.length cp]) = .iface 74 (.agg #[.int .i64 x.k, .string x.s, .slice an x.ns.length cn, .slice ap x.ps.length cp]) by unfold nodeV; rw [if_pos h7])
    have hm : ∀ (c0 c1 c2 c3 : Value) (w : World), (method 256 74 (.agg #[c0, c1, c2, c3]) "refectory/value.readable").run Tryz.prog w = .ok (150, .agg #[c0, c1, c2, c3]) w := fun _ _ _ _ _ => by kernel_rfl
    have ht : ∀ (v : Value) (W : World), (Instr.typeAssert (.iface 74 v) 52 74 true).run Tryz.prog W = .ok (.tuple #[v, .bool true]) W := fun v W => by kernel_rfl
    have HL := listReadable_any x.k x.s an x.ns.length cn ap x.ps.length cp w
    have HS := Lib.hid (show selfV x = (decide (x.s.size = 0) && decide (x.ns.length = 0)) by unfold selfV; rw [if_pos h7])
    have HC := Lib.hid (show compV x = true by unfold compV; rw [h7]; rfl)
    have H7 := Lib.hid h7
    rw [← HS.out] at HL
    rw [HN.out]
    clear h7
    cases hsf : selfV x with
    | false =>
      have HF := Lib.hid (show rdOk m x = false by rw [HR.out, hsf]; rfl)
      rw [hsf] at HL
      clear hsf
      go_enter Tryz.func16, Tryz.ntmps16
      go_wp2_with fail
      refine HL.mono ?_
      rintro e w1 ⟨rfl, b1⟩
      go_wp2_with fail
      go_ret
      exact ⟨by rw [HF.out]; rfl, fun h => absurd (HF.out.symm.trans h) (by decide), b1.mono hB, kept_below b1⟩
    | true =>
      have HF := Lib.hid (show rdOk m x = partsOk m x by rw [HR.out, hsf, HC.out]; rfl)
      rw [hsf] at HL
      clear hsf
      go_enter Tryz.func16, Tryz.ntmps16
      go_wp2_with fail
      refine HL.mono ?_
      rintro e w1 ⟨rfl, b1⟩
      have b2 : Below w.heap.size w (w1.alloc (.cells #[.int .i64 x.k, .string x.s, .slice an x.ns.length cn, .slice ap x.ps.length cp] 74)) := b1.alloc b1.size _
      have HW := (HP (n) x an cn ap cp (w1.alloc (.cells #[.int .i64 x.k, .string x.s, .slice an x.ns.length cn, .slice ap x.ps.length cp] 74)) B b bs (hs.below (b2.mono hB)) (hr.below (b2.mono hB)) z2 z3 z4 z5 (hbld.below b2) hlen (Nat.le_trans hB b2.size)).1 H7.out
      have HB := Lib.hid (b2.mono hB)
      have HK := Lib.hid (kept_below (e := 5) (b := some b) b2)
      clear HP hs hr b2 HL hbld
      go_wp2_with fail
      refine HW.mono ?_
      intro e w2 hw
      have hw2 := hw.after HB.out HK.out
      obtain ⟨rfl, q1, q2, q3⟩ := hw2
      clear hw HW
      go_wp2_with fail
      go_ret
      exact ⟨by rw [HF.out]; rfl, fun h => q1 (HF.out.symm.trans h), q2, q3⟩
  by_cases h8 : x.k = 8
  · have HN := Lib.hid (show nodeV x.k (.agg #[.int .i64 x.k, .string x.s, .slice an x.ns.length cn, .slice ap x.ps.length cp]) = .iface 76 (.agg #[.int .i64 x.k, .string x.s, .slice an x.ns.length cn, .slice ap x.ps.length cp]) by unfold nodeV; rw [if_neg h7, if_pos h8])
    have hm : ∀ (c0 c1 c2 c3 : Value) (w : World), (method 256 76 (.agg #[c0, c1, c2, c3]) "refectory/value.readable").run Tryz.prog w = .ok (151, .agg #[c0, c1, c2, c3]) w := fun _ _ _ _ _ => by kernel_rfl
    have ht0 : ∀ (v : Value) (W : World), (Instr.typeAssert (.iface 76 v) 52 74 true).run Tryz.prog W = .ok (.tuple #[.agg #[.int .i64 0, .string ⟨#[]⟩, .slice none 0 0, .slice none 0 0], .bool false]) W := fun v W => by kernel_rfl
    have ht : ∀ (v : Value) (W : World), (Instr.typeAssert (.iface 76 v) 52 76 true).run Tryz.prog W = .ok (.tuple #[v, .bool true]) W := fun v W => by kernel_rfl
    have HL := objectReadable_any B x.k x.s an x.ns cn ap x.ps.length cp w hB z2 hs
    have HS := Lib.hid (show selfV x = (decide (x.s.size = 0) && decide (x.ns.length = x.ps.length) && x.ns.all (fun n => nameB (vbl n))) by unfold selfV; rw [if_neg h7, if_pos h8])
    have HC := Lib.hid (show compV x = true by unfold compV; rw [h8]; rfl)
    have H8 := Lib.hid h8
    rw [← HS.out] at HL
    rw [HN.out]
    cases hsf : selfV x with
    | false =>
      have HF := Lib.hid (show rdOk m x = false by rw [HR.out, hsf]; rfl)
      rw [hsf] at HL
      clear hsf h7 h8
      go_enter Tryz.func16, Tryz.ntmps16
      go_wp2_with fail
      refine HL.mono ?_
      rintro e w1 ⟨rfl, b1⟩
      go_wp2_with fail
      go_ret
      exact ⟨by rw [HF.out]; rfl, fun h => absurd (HF.out.symm.trans h) (by decide), b1.mono hB, kept_below b1⟩
    | true =>
      have HF := Lib.hid (show rdOk m x = partsOk m x by rw [HR.out, hsf, HC.out]; rfl)
      have HNS := Lib.hid (vs_object h8 hsf).2.1
      rw [hsf] at HL
      clear hsf h7 h8
      go_enter Tryz.func16, Tryz.ntmps16
      go_wp2_with fail
      refine HL.mono ?_
      rintro e w1 ⟨rfl, b1⟩
      have b2 : Below w.heap.size w (w1.alloc (.cells #[.int .i64 x.k, .string x.s, .slice an x.ns.length cn, .slice ap x.ps.length cp] 76)) := b1.alloc b1.size _
      have HW := (HP (n) x an cn ap cp (w1.alloc (.cells #[.int .i64 x.k, .string x.s, .slice an x.ns.length cn, .slice ap x.ps.length cp] 76)) B b bs (hs.below (b2.mono hB)) (hr.below (b2.mono hB)) z2 z3 z4 z5 (hbld.below b2) hlen (Nat.le_trans hB b2.size)).2 H8.out HNS.out
      have HB := Lib.hid (b2.mono hB)
      have HK := Lib.hid (kept_below (e := 5) (b := some b) b2)
      clear HP hs hr b2 HL hbld
      go_wp2_with fail
      refine HW.mono ?_
      intro e w2 hw
      have hw2 := hw.after HB.out HK.out
      obtain ⟨rfl, q1, q2, q3⟩ := hw2
      clear hw HW
      go_wp2_with fail
      go_ret
      exact ⟨by rw [HF.out]; rfl, fun h => q1 (HF.out.symm.trans h), q2, q3⟩
  have HN := Lib.hid (show nodeV x.k (.agg #[.int .i64 x.k, .string x.s, .slice an x.ns.length cn, .slice ap x.ps.length cp]) = .iface 77 (.agg #[.int .i64 x.k, .string x.s, .slice an x.ns.length cn, .slice ap x.ps.length cp]) by unfold nodeV; rw [if_neg h7, if_neg h8])
  have hm : ∀ (c0 c1 c2 c3 : Value) (w : World), (method 256 77 (.agg #[c0, c1, c2, c3]) "refectory/value.readable").run Tryz.prog w = .ok (152, .agg #[c0, c1, c2, c3]) w := fun _ _ _ _ _ => by kernel_rfl
  have ht0 : ∀ (v : Value) (W : World), (Instr.typeAssert (.iface 77 v) 52 74 true).run Tryz.prog W = .ok (.tuple #[.agg #[.int .i64 0, .string ⟨#[]⟩, .slice none 0 0, .slice none 0 0], .bool false]) W := fun v W => by kernel_rfl
  have ht1 : ∀ (v : Value) (W : World), (Instr.typeAssert (.iface 77 v) 52 76 true).run Tryz.prog W = .ok (.tuple #[.agg #[.int .i64 0, .string ⟨#[]⟩, .slice none 0 0, .slice none 0 0], .bool false]) W := fun v W => by kernel_rfl
  have ht : ∀ (v : Value) (W : World), (Instr.typeAssert (.iface 77 v) 52 77 true).run Tryz.prog W = .ok (.tuple #[v, .bool true]) W := fun v W => by kernel_rfl
  have HC := Lib.hid (comp_no h7 h8)
  have HT := Lib.hid (vtxt_leaf (m := m) h7 h8)
  have HS := Lib.hid (show selfV x = (decide (x.ns.length = 0) && decide (x.ps.length = 0) && leafOk x) by unfold selfV; rw [if_neg h7, if_neg h8])
  rw [HN.out]
  clear h7 h8 HP
  by_cases hz : x.ns.length ≠ 0 ∨ x.ps.length ≠ 0
  · have HF := Lib.hid (show rdOk m x = false by
      rw [HR.out, HS.out]
      rcases hz with e | e
      · rw [decide_eq_false e]; rfl
      · rw [decide_eq_false e, Bool.and_false]; rfl)
    have HL := leafReadable_none x.k x.s an x.ns.length cn ap x.ps.length cp w hz
    clear hz
    go_enter Tryz.func16, Tryz.ntmps16
    go_wp2_with fail
    refine HL.mono ?_
    rintro e w1 ⟨rfl, b1⟩
    go_wp2_with fail
    go_ret
    exact ⟨by rw [HF.out]; rfl, fun h => absurd (HF.out.symm.trans h) (by decide), b1.mono hB, kept_below b1⟩
  · obtain ⟨hn0, hp0⟩ : x.ns.length = 0 ∧ x.ps.length = 0 := by omega
    have HL := leafReadable_any x.k x.s an cn ap cp w z1
    have HF0 := Lib.hid (show rdOk m x = lf x.k x.s by
      rw [HR.out, HS.out, HC.out, decide_eq_true hn0, decide_eq_true hp0, Bool.not_false, Bool.true_or, Bool.and_true]
      rfl)
    have HX := Lib.hid (show leafT x = leafT (.mk x.k x.s [] []) from rfl)
    rw [hn0, hp0]
    clear hz hn0 hp0 hs hr z2 z3 z4 z5
    cases hlf : lf x.k x.s with
    | false =>
      have HF := Lib.hid (show rdOk m x = false by rw [HF0.out, hlf])
      rw [hlf] at HL
      clear hlf
      go_enter Tryz.func16, Tryz.ntmps16
      go_wp2_with fail
      refine HL.mono ?_
      rintro e w1 ⟨rfl, b1⟩
      go_wp2_with fail
      go_ret
      exact ⟨by rw [HF.out]; rfl, fun h => absurd (HF.out.symm.trans h) (by decide), b1.mono hB, kept_below b1⟩
    | true =>
      have HF := Lib.hid (show rdOk m x = true by rw [HF0.out, hlf])
      rw [hlf] at HL
      rw [HT.out] at hlen
      clear hlf
      go_enter Tryz.func16, Tryz.ntmps16
      go_wp2_with fail
      refine HL.mono ?_
      rintro e w1 ⟨rfl, b1⟩
      have b2 : Below w.heap.size w (w1.alloc (.cells #[.int .i64 x.k, .string x.s, .slice an 0 cn, .slice ap 0 cp] 77)) := b1.alloc b1.size _
      have HTX := leafText_any x.k x.s an 0 cn ap 0 cp (w1.alloc (.cells #[.int .i64 x.k, .string x.s, .slice an 0 cn, .slice ap 0 cp] 77)) z1
      clear HL
      go_wp2_with fail
      refine HTX.mono ?_
      rintro e w2 ⟨tx, rfl, htx, b3⟩
      have b4 := b2.trans (b3.mono b2.size)
      have HTt := Lib.hid htx
      have HW := wStr tx (hbld.below b4) (by rw [htx, ← HX.out]; exact hlen) (Nat.le_trans hB b4.size)
      have HB := Lib.hid (b4.mono hB)
      have HK := Lib.hid (kept_below (e := 5) (b := some b) b4)
      clear HTX htx b3 b4 b2 hbld
      go_wp2_with fail
      refine HW.mono ?_
      rintro e w3 ⟨rfl, q1, q2, q3⟩
      clear HW
      go_wp2_with fail
      go_ret
      exact ⟨by rw [HF.out]; rfl, fun _ => by rw [HT.out, HX.out, ← HTt.out]; exact q1, HB.out.trans q2, HK.out.trans q3⟩

theorem vwrite_any : ∀ (m d : Nat), d + m = 13 → WValV m d
  | 0, d, h => vwrite_step 0 d (partsAt_zero d (by omega))
  | m + 1, d, h => vwrite_step (m + 1) d (partsAt_succ m d (by omega) (vwrite_any m (d + 1) (by omega)))

/-- A value's text: empty, where it could not be read. -/
def vtextB (x : JV) : List UInt8 := if rdOk 12 x then vtxt 12 x else []

set_option maxHeartbeats 2000000 in
set_option maxRecDepth 100000 in
theorem vtext_any (B n : Nat) (x : JV) (v : Value) (w : World) (hB : B ≤ w.heap.size) (h : Rd w B n x v) (hlen : (vtxt 12 x).length ≤ 140737488355328) :
    Calls Tryz.prog 8 #[v] w (StrBelow w (vtextB x)) := by
  obtain ⟨an, cn, ap, cp, rfl⟩ := h.shape
  have hb0 : Below w.heap.size w (w.alloc (.cells #[.int .i64 x.k, .string x.s, .slice an x.ns.length cn, .slice ap x.ps.length cp] 25)) := (Below.refl _ w).alloc (Nat.le_refl _) _
  have hb1 : Below w.heap.size w ((w.alloc (.cells #[.int .i64 x.k, .string x.s, .slice an x.ns.length cn, .slice ap x.ps.length cp] 25)).alloc (.cells #[.pointer none, .slice none 0 0] 49)) := hb0.alloc (by simp) _
  have hz1 : (w.alloc (.cells #[.int .i64 x.k, .string x.s, .slice an x.ns.length cn, .slice ap x.ps.length cp] 25)).heap.size = w.heap.size + 1 := by simp
  have hz2 : ((w.alloc (.cells #[.int .i64 x.k, .string x.s, .slice an x.ns.length cn, .slice ap x.ps.length cp] 25)).alloc (.cells #[.pointer none, .slice none 0 0] 49)).heap.size = w.heap.size + 2 := by simp
  have hbl : Bld 49 (w.heap.size + 1) (w.heap.size + 1) [] (Lib.byteCells []) ((w.alloc (.cells #[.int .i64 x.k, .string x.s, .slice an x.ns.length cn, .slice ap x.ps.length cp] 25)).alloc (.cells #[.pointer none, .slice none 0 0] 49)) := by
    have := Bld.fresh 49 [] (w.alloc (.cells #[.int .i64 x.k, .string x.s, .slice an x.ns.length cn, .slice ap x.ps.length cp] 25))
    rw [hz1] at this
    exact this
  have HN := nodeOf_any x.k x.s an x.ns.length cn ap x.ps.length cp ((w.alloc (.cells #[.int .i64 x.k, .string x.s, .slice an x.ns.length cn, .slice ap x.ps.length cp] 25)).alloc (.cells #[.pointer none, .slice none 0 0] 49))
  have hRd := (h.below (hb1.mono hB)).more (show B ≤ w.heap.size + 1 by omega)
  have HB1 := Lib.hid hb1
  have HU := Lib.hid (show vtextB x = if rdOk 12 x then vtxt 12 x else [] from rfl)
  go_enter Tryz.func8, Tryz.ntmps8
  go_wp2_with fail
  refine HN.mono ?_
  rintro e w2 ⟨rfl, b2⟩
  have hs2 := b2.size
  rw [hz2] at hs2
  have b3 : Below (w.heap.size + 1) ((w.alloc (.cells #[.int .i64 x.k, .string x.s, .slice an x.ns.length cn, .slice ap x.ps.length cp] 25)).alloc (.cells #[.pointer none, .slice none 0 0] 49)) w2 := b2.mono (by rw [hz2]; omega)
  have HW := vwrite_any 12 1 rfl n x _ w2 (w.heap.size + 1) (w.heap.size + 1) [] (hRd.below b3) (hbl.below b2) (by simpa using hlen) (by omega)
  have HB2 := Lib.hid (HB1.out.trans (b3.mono (by omega)))
  clear hRd hbl HN b2 b3 h hb0 hb1 hz1 hz2
  cases hok : rdOk 12 x with
  | false =>
    rw [hok] at HW
    have HF := Lib.hid (show vtextB x = [] by rw [HU.out, hok]; rfl)
    clear hok
    go_wp2_with fail
    refine HW.mono ?_
    rintro e w3 ⟨rfl, _, q2, q3⟩
    go_wp2_with fail
    go_ret
    exact strBelow_mk (l := []) HF.out.symm (HB2.out.trans (q2.mono (by omega)))
  | true =>
    rw [hok] at HW
    have HF := Lib.hid (show vtextB x = vtxt 12 x by rw [HU.out, hok]; rfl)
    clear hok
    go_wp2_with fail
    refine HW.mono ?_
    rintro e w3 ⟨rfl, q1, q2, q3⟩
    have hq := q1 rfl
    have hs3 := q2.size
    have HS := string_any ([] ++ vtxt 12 x) hq (by omega)
    clear q1 hq q3
    go_wp2_with fail
    refine HS.mono ?_
    rintro e w4 ⟨rfl, b4⟩
    go_wp2_with fail
    go_ret
    exact strBelow_mk HF.out.symm (HB2.out.trans ((q2.trans b4).mono (by omega)))

end Go.Proofs.YtiblffipfldgjaaGreatDoor
