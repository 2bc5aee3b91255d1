/-
  print's writer: parts of type api.Op, one behind the other.
-/
import Derived.Test.YtkfllppggjhhmaaGreatDoorMV2
namespace Go.Proofs.YtkfllppggjhhmaaGreatDoor
open Go.RowKit

set_option maxHeartbeats 8000000 in
set_option maxRecDepth 100000 in
theorem svOp_any {N R k : Nat} {D : Nat → Prop} {xs : List OpT} {v : Value} {s : Ws} (P : OpT → Ws → Ws) (bt : ByteArray) (w : World) (h : Wv N R k s w) (hr : RowD OpE 5 w D xs v) (hD : ∀ b, D b → b < N)
    (hF : ∀ x ∈ xs, ∀ s' cs W, Wv N R k s' W → Below N w W → OpE W D x cs → (P x s').out.length ≤ 140737488355328 → Calls Tryz.prog 68 #[.pointer (some ⟨R, 0, none⟩), .agg cs.toArray] W (WAns N R k (P x s') W))
    (hM : ∀ s0 x s', Mo s0 s' → Mo s0 (P x s')) (hlen : (svW P (vbl bt) true xs s).out.length ≤ 140737488355328) :
    Calls Tryz.prog 67 #[.pointer (some ⟨R, 0, none⟩), .func (.func 68) #[.pointer (some ⟨R, 0, none⟩)] #[], .string bt, v] w (WAns N R k (svW P (vbl bt) true xs s) w) := by
  obtain ⟨a, cap, rfl, hx6, hcap, hrow⟩ := hr
  have HROW := Lib.hid hrow
  have HF := Lib.hid hF
  have HD := Lib.hid hD
  have HM := Lib.hid hM
  have HLEN := Lib.hid hlen
  have HH := Lib.hid h
  clear hrow hF hD hM hlen h
  go_enter Tryz.func67, Tryz.ntmps67
  go_wp2_with fail
  go_loopg [8, 9, 12] xs.length (fun j _ _ v12 wr => ∃ (i : Nat) (s' : Ws), v12 = .int .i64 (i : Int) ∧ i ≤ xs.length ∧ j = xs.length - i ∧ Hid (svW P (vbl bt) true xs s = svW P (vbl bt) (i == 0) (xs.drop i) s') ∧ Wk N R k s' w wr)
  case atStart => exact ⟨0, s, rfl, Nat.zero_le _, rfl, Lib.hid (by rw [List.drop_zero]; rfl), .refl HH.out⟩
  case round =>
    obtain ⟨i, s', rfl, hi, hj, HS, hk⟩ := hrel
    have HK := Lib.hid hk
    have hw : IntKind.i64.wrap ((i : Int) + 1) = (i : Int) + 1 := IntWalk.i64_in _ (by omega)
    obtain ⟨-, c3, -, -, hRl⟩ := hk.1.cells
    by_cases hlt : i < xs.length
    · have hd : decide ((i : Int) < (xs.length : Int)) = true := decide_eq_true (by omega)
      have hd2 : decide (i < xs.length) = true := decide_eq_true hlt
      obtain ⟨g, off, rfl, hDg, hel⟩ := HROW.out (by omega)
      have hx : xs[i]? = some xs[i] := List.getElem?_eq_getElem hlt
      have hmem := List.getElem_mem hlt
      obtain ⟨cs, hcl, hcs, hE⟩ := hel i _ hx
      have HS2 := Lib.hid (show svW P (vbl bt) true xs s = if s'.full then s' else svW P (vbl bt) false (xs.drop (i + 1)) (P xs[i] (if i == 0 then s' else wrT (vbl bt) s')) by rw [HS.out, List.drop_eq_getElem_cons hlt]; rfl)
      generalize xs[i] = x at *
      obtain ⟨hz1, vv, vd, vs, rfl, hv1, hd1, hs1⟩ := hE
      have hgl : g < wr.heap.size := by have := HD.out g hDg; have := hk.1.hN; omega
      have hce : ∀ o, wr.cell? ⟨g, o, none⟩ = w.cell? ⟨g, o, none⟩ := fun o => World.cell?_of_block (a := ⟨g, o, none⟩) (hk.2.1.block g (HD.out g hDg))
      obtain ⟨aa, ca, rfl⟩ := hv1.shape
      obtain ⟨ad, cd, rfl⟩ := hd1.shape
      obtain ⟨as7, cs7, rfl⟩ := hs1.shape
      have k0 : wr.cell? ⟨g, off + i * 5, none⟩ = some (.bool x.mut_) := (hce _).trans (hcs 0 _ rfl)
      have k1 : wr.cell? ⟨g, off + i * 5 + 1, none⟩ = some (.string ⟨x.nm.toArray⟩) := (hce _).trans (hcs 1 _ rfl)
      have k2 : wr.cell? ⟨g, off + i * 5 + 2, none⟩ = some (.slice aa x.vars.length ca) := (hce _).trans (hcs 2 _ rfl)
      have k3 : wr.cell? ⟨g, off + i * 5 + 3, none⟩ = some (.slice ad x.dirs.length cd) := (hce _).trans (hcs 3 _ rfl)
      have k4 : wr.cell? ⟨g, off + i * 5 + 4, none⟩ = some (.slice as7 x.sels.length cs7) := (hce _).trans (hcs 4 _ rfl)
      have hicp : i < cap := by omega
      have HE0 := Lib.hid (show OpE w D x [.bool x.mut_, .string ⟨x.nm.toArray⟩, .slice aa x.vars.length ca, .slice ad x.dirs.length cd, .slice as7 x.sels.length cs7] from ⟨hz1, _, _, _, rfl, hv1, hd1, hs1⟩)
      have HW1 := Lib.hid (hk.alloc (.cells #[.bool x.mut_, .string ⟨x.nm.toArray⟩, .slice aa x.vars.length ca, .slice ad x.dirs.length cd, .slice as7 x.sels.length cs7] 45))
      have hbR : wr.heap.size ≠ R := by omega
      clear hk hel hcs hce hcl hx hv1 hd1 hs1
      cases hf : s'.full with
      | true =>
        rw [hf] at c3
        have HE := Lib.hid (show svW P (vbl bt) true xs s = s' by rw [HS2.out, if_pos hf])
        clear hf
        go_wp2_with fail
        refine bodyPost_ret (v := .tuple #[]) (results_none rfl _ _ _) rfl ?_
        rw [HE.out]
        exact ⟨rfl, HW1.out⟩
      | false =>
        rw [hf] at c3
        have HEQ := Lib.hid (show svW P (vbl bt) true xs s = svW P (vbl bt) false (xs.drop (i + 1)) (P x (if i == 0 then s' else wrT (vbl bt) s')) by rw [HS2.out, if_neg (by rw [hf]; decide)])
        clear hf
        have HL := Lib.hid (show (P x (if i == 0 then s' else wrT (vbl bt) s')).out.length ≤ 140737488355328 by
          have h1 := svW_k (I := Mo (P x (if i == 0 then s' else wrT (vbl bt) s'))) (mo_wr _) (fun x s' h => HM.out _ x s' h) (vbl bt) false (xs.drop (i + 1)) _ (Nat.le_refl _)
          unfold Mo at h1
          rw [← HEQ.out] at h1
          exact Nat.le_trans h1 HLEN.out)
        by_cases hz : i = 0
        · have hi0 : decide ((0 : Int) < (i : Int)) = false := decide_eq_false (by omega)
          have hi1 : decide (0 < i) = false := decide_eq_false (by omega)
          have hz' : (i == 0) = true := by simpa using hz
          rw [hz'] at HEQ HL
          simp only [reduceIte] at HEQ HL
          have hE' : OpE (wr.alloc (.cells #[.bool x.mut_, .string ⟨x.nm.toArray⟩, .slice aa x.vars.length ca, .slice ad x.dirs.length cd, .slice as7 x.sels.length cs7] 45)) D x [.bool x.mut_, .string ⟨x.nm.toArray⟩, .slice aa x.vars.length ca, .slice ad x.dirs.length cd, .slice as7 x.sels.length cs7] := opOk.step (fun _ h => h) (fun b o hb' => World.cell?_of_block (a := ⟨b, o, none⟩) (HW1.out.2.1.block b (HD.out b hb'))) HE0.out
          have HCL : Calls Tryz.prog 68 #[.pointer (some ⟨R, 0, none⟩), .agg #[.bool x.mut_, .string ⟨x.nm.toArray⟩, .slice aa x.vars.length ca, .slice ad x.dirs.length cd, .slice as7 x.sels.length cs7]] (wr.alloc (.cells #[.bool x.mut_, .string ⟨x.nm.toArray⟩, .slice aa x.vars.length ca, .slice ad x.dirs.length cd, .slice as7 x.sels.length cs7] 45)) _ := HF.out x hmem s' [.bool x.mut_, .string ⟨x.nm.toArray⟩, .slice aa x.vars.length ca, .slice ad x.dirs.length cd, .slice as7 x.sels.length cs7] _ HW1.out.1 HW1.out.2.1 hE' HL.out
          clear hE' hz hz' hmem
          go_wp2_with fail
          refine HCL.mono ?_
          rintro e w2 ⟨rfl, hk2⟩
          have HK2 := Lib.hid (HW1.out.trans hk2)
          clear hk2 HCL
          go_wp2_with fail
          go_roundg (xs.length - (i + 1))
          case measure => omega
          case rel => exact ⟨i + 1, _, by simp, by omega, rfl, HEQ, HK2.out⟩
        · have hi0 : decide ((0 : Int) < (i : Int)) = true := decide_eq_true (by omega)
          have hi1 : decide (0 < i) = true := decide_eq_true (by omega)
          have hz' : (i == 0) = false := by simpa using hz
          rw [hz'] at HEQ HL
          simp only [reduceIte, Bool.false_eq_true] at HEQ HL
          have hb0 : (wr.alloc (.cells #[.bool x.mut_, .string ⟨x.nm.toArray⟩, .slice aa x.vars.length ca, .slice ad x.dirs.length cd, .slice as7 x.sels.length cs7] 45)).heap[wr.heap.size]? = some (.cells #[.bool x.mut_, .string ⟨x.nm.toArray⟩, .slice aa x.vars.length ca, .slice ad x.dirs.length cd, .slice as7 x.sels.length cs7] 45 (0, 0)) := heap_alloc_new _ _
          have hT := txOne (v := bt) HW1.out
          have HCW := write_any (l := [bt]) (cap := 1) _ hT.1.1 hT.2 (show 1 ≤ 100 by decide) (Nat.le_refl _) (by
            have h1 := HM.out (wrT (vbl bt) s') x _ (Nat.le_refl _)
            exact Nat.le_trans h1 HL.out)
          have HCW : Calls Tryz.prog 69 #[.pointer (some ⟨R, 0, none⟩), .slice (some ⟨(wr.alloc (.cells #[.bool x.mut_, .string ⟨x.nm.toArray⟩, .slice aa x.vars.length ca, .slice ad x.dirs.length cd, .slice as7 x.sels.length cs7] 45)).heap.size, 0, none⟩) 1 1] _ _ := HCW
          rw [show (wr.alloc (.cells #[.bool x.mut_, .string ⟨x.nm.toArray⟩, .slice aa x.vars.length ca, .slice ad x.dirs.length cd, .slice as7 x.sels.length cs7] 45)).heap.size = wr.heap.size + 1 by simp] at HCW
          have HT1 := Lib.hid hT.1
          have HB0 := Lib.hid hb0
          clear hT hb0 hz hz'
          go_wp2_with fail
          refine HCW.mono ?_
          rintro e w2 ⟨rfl, hk2⟩
          have HW2 := Lib.hid (HW1.out.trans (HT1.out.trans hk2))
          have hbx := (HT1.out.trans hk2).box HB0.out (by decide) hbR
          have hbl : wr.heap.size < w2.heap.size := (Array.getElem?_eq_some_iff.1 hbx).1
          have q0 : w2.cell? ⟨wr.heap.size, 0, none⟩ = some (.bool x.mut_) := by rw [Lib.cell_of_heap hbx]; rfl
          have q1 : w2.cell? ⟨wr.heap.size, 1, none⟩ = some (.string ⟨x.nm.toArray⟩) := by rw [Lib.cell_of_heap hbx]; rfl
          have q2 : w2.cell? ⟨wr.heap.size, 2, none⟩ = some (.slice aa x.vars.length ca) := by rw [Lib.cell_of_heap hbx]; rfl
          have q3 : w2.cell? ⟨wr.heap.size, 3, none⟩ = some (.slice ad x.dirs.length cd) := by rw [Lib.cell_of_heap hbx]; rfl
          have q4 : w2.cell? ⟨wr.heap.size, 4, none⟩ = some (.slice as7 x.sels.length cs7) := by rw [Lib.cell_of_heap hbx]; rfl
          have hE' : OpE w2 D x [.bool x.mut_, .string ⟨x.nm.toArray⟩, .slice aa x.vars.length ca, .slice ad x.dirs.length cd, .slice as7 x.sels.length cs7] := opOk.step (fun _ h => h) (fun b o hb' => World.cell?_of_block (a := ⟨b, o, none⟩) (HW2.out.2.1.block b (HD.out b hb'))) HE0.out
          have HCL : Calls Tryz.prog 68 #[.pointer (some ⟨R, 0, none⟩), .agg #[.bool x.mut_, .string ⟨x.nm.toArray⟩, .slice aa x.vars.length ca, .slice ad x.dirs.length cd, .slice as7 x.sels.length cs7]] w2 _ := HF.out x hmem _ [.bool x.mut_, .string ⟨x.nm.toArray⟩, .slice aa x.vars.length ca, .slice ad x.dirs.length cd, .slice as7 x.sels.length cs7] w2 HW2.out.1 HW2.out.2.1 hE' HL.out
          clear hE' hmem hk2 HCW hbx HB0 HT1
          go_wp2_with fail
          refine HCL.mono ?_
          rintro e w3 ⟨rfl, hk3⟩
          have HK3 := Lib.hid (HW2.out.trans hk3)
          clear hk3 HCL
          go_wp2_with fail
          go_roundg (xs.length - (i + 1))
          case measure => omega
          case rel => exact ⟨i + 1, _, by simp, by omega, rfl, HEQ, HK3.out⟩
    · have hd : decide ((i : Int) < (xs.length : Int)) = false := decide_eq_false (by omega)
      have hd2 : decide (i < xs.length) = false := decide_eq_false hlt
      have HE := Lib.hid (show svW P (vbl bt) true xs s = s' by rw [HS.out, List.drop_of_length_le (by omega)]; rfl)
      clear hk
      go_wp2_with fail
      go_end0
      rw [HE.out]
      exact ⟨rfl, HK.out⟩

end Go.Proofs.YtkfllppggjhhmaaGreatDoor
/-
  print's writer: parts of type api.Frag, one behind the other.
-/
namespace Go.Proofs.YtkfllppggjhhmaaGreatDoor
open Go.RowKit

set_option maxHeartbeats 8000000 in
set_option maxRecDepth 100000 in
theorem svFrag_any {N R k : Nat} {D : Nat → Prop} {xs : List FragT} {v : Value} {s : Ws} (P : FragT → Ws → Ws) (bt : ByteArray) (w : World) (h : Wv N R k s w) (hr : RowD FragE 4 w D xs v) (hD : ∀ b, D b → b < N)
    (hF : ∀ x ∈ xs, ∀ s' cs W, Wv N R k s' W → Below N w W → FragE W D x cs → (P x s').out.length ≤ 140737488355328 → Calls Tryz.prog 71 #[.pointer (some ⟨R, 0, none⟩), .agg cs.toArray] W (WAns N R k (P x s') W))
    (hM : ∀ s0 x s', Mo s0 s' → Mo s0 (P x s')) (hlen : (svW P (vbl bt) true xs s).out.length ≤ 140737488355328) :
    Calls Tryz.prog 70 #[.pointer (some ⟨R, 0, none⟩), .func (.func 71) #[.pointer (some ⟨R, 0, none⟩)] #[], .string bt, v] w (WAns N R k (svW P (vbl bt) true xs s) w) := by
  obtain ⟨a, cap, rfl, hx6, hcap, hrow⟩ := hr
  have HROW := Lib.hid hrow
  have HF := Lib.hid hF
  have HD := Lib.hid hD
  have HM := Lib.hid hM
  have HLEN := Lib.hid hlen
  have HH := Lib.hid h
  clear hrow hF hD hM hlen h
  go_enter Tryz.func70, Tryz.ntmps70
  go_wp2_with fail
  go_loopg [8, 9, 12] xs.length (fun j _ _ v12 wr => ∃ (i : Nat) (s' : Ws), v12 = .int .i64 (i : Int) ∧ i ≤ xs.length ∧ j = xs.length - i ∧ Hid (svW P (vbl bt) true xs s = svW P (vbl bt) (i == 0) (xs.drop i) s') ∧ Wk N R k s' w wr)
  case atStart => exact ⟨0, s, rfl, Nat.zero_le _, rfl, Lib.hid (by rw [List.drop_zero]; rfl), .refl HH.out⟩
  case round =>
    obtain ⟨i, s', rfl, hi, hj, HS, hk⟩ := hrel
    have HK := Lib.hid hk
    have hw : IntKind.i64.wrap ((i : Int) + 1) = (i : Int) + 1 := IntWalk.i64_in _ (by omega)
    obtain ⟨-, c3, -, -, hRl⟩ := hk.1.cells
    by_cases hlt : i < xs.length
    · have hd : decide ((i : Int) < (xs.length : Int)) = true := decide_eq_true (by omega)
      have hd2 : decide (i < xs.length) = true := decide_eq_true hlt
      obtain ⟨g, off, rfl, hDg, hel⟩ := HROW.out (by omega)
      have hx : xs[i]? = some xs[i] := List.getElem?_eq_getElem hlt
      have hmem := List.getElem_mem hlt
      obtain ⟨cs, hcl, hcs, hE⟩ := hel i _ hx
      have HS2 := Lib.hid (show svW P (vbl bt) true xs s = if s'.full then s' else svW P (vbl bt) false (xs.drop (i + 1)) (P xs[i] (if i == 0 then s' else wrT (vbl bt) s')) by rw [HS.out, List.drop_eq_getElem_cons hlt]; rfl)
      generalize xs[i] = x at *
      obtain ⟨hz1, vd, vs, rfl, hd1, hs1⟩ := hE
      have hgl : g < wr.heap.size := by have := HD.out g hDg; have := hk.1.hN; omega
      have hce : ∀ o, wr.cell? ⟨g, o, none⟩ = w.cell? ⟨g, o, none⟩ := fun o => World.cell?_of_block (a := ⟨g, o, none⟩) (hk.2.1.block g (HD.out g hDg))
      obtain ⟨ad, cd, rfl⟩ := hd1.shape
      obtain ⟨as7, cs7, rfl⟩ := hs1.shape
      have k0 : wr.cell? ⟨g, off + i * 4, none⟩ = some (.string ⟨x.nm.toArray⟩) := (hce _).trans (hcs 0 _ rfl)
      have k1 : wr.cell? ⟨g, off + i * 4 + 1, none⟩ = some (.string ⟨x.on_.toArray⟩) := (hce _).trans (hcs 1 _ rfl)
      have k2 : wr.cell? ⟨g, off + i * 4 + 2, none⟩ = some (.slice ad x.dirs.length cd) := (hce _).trans (hcs 2 _ rfl)
      have k3 : wr.cell? ⟨g, off + i * 4 + 3, none⟩ = some (.slice as7 x.sels.length cs7) := (hce _).trans (hcs 3 _ rfl)
      have hicp : i < cap := by omega
      have HE0 := Lib.hid (show FragE w D x [.string ⟨x.nm.toArray⟩, .string ⟨x.on_.toArray⟩, .slice ad x.dirs.length cd, .slice as7 x.sels.length cs7] from ⟨hz1, _, _, rfl, hd1, hs1⟩)
      have HW1 := Lib.hid (hk.alloc (.cells #[.string ⟨x.nm.toArray⟩, .string ⟨x.on_.toArray⟩, .slice ad x.dirs.length cd, .slice as7 x.sels.length cs7] 61))
      have hbR : wr.heap.size ≠ R := by omega
      clear hk hel hcs hce hcl hx hd1 hs1
      cases hf : s'.full with
      | true =>
        rw [hf] at c3
        have HE := Lib.hid (show svW P (vbl bt) true xs s = s' by rw [HS2.out, if_pos hf])
        clear hf
        go_wp2_with fail
        refine bodyPost_ret (v := .tuple #[]) (results_none rfl _ _ _) rfl ?_
        rw [HE.out]
        exact ⟨rfl, HW1.out⟩
      | false =>
        rw [hf] at c3
        have HEQ := Lib.hid (show svW P (vbl bt) true xs s = svW P (vbl bt) false (xs.drop (i + 1)) (P x (if i == 0 then s' else wrT (vbl bt) s')) by rw [HS2.out, if_neg (by rw [hf]; decide)])
        clear hf
        have HL := Lib.hid (show (P x (if i == 0 then s' else wrT (vbl bt) s')).out.length ≤ 140737488355328 by
          have h1 := svW_k (I := Mo (P x (if i == 0 then s' else wrT (vbl bt) s'))) (mo_wr _) (fun x s' h => HM.out _ x s' h) (vbl bt) false (xs.drop (i + 1)) _ (Nat.le_refl _)
          unfold Mo at h1
          rw [← HEQ.out] at h1
          exact Nat.le_trans h1 HLEN.out)
        by_cases hz : i = 0
        · have hi0 : decide ((0 : Int) < (i : Int)) = false := decide_eq_false (by omega)
          have hi1 : decide (0 < i) = false := decide_eq_false (by omega)
          have hz' : (i == 0) = true := by simpa using hz
          rw [hz'] at HEQ HL
          simp only [reduceIte] at HEQ HL
          have hE' : FragE (wr.alloc (.cells #[.string ⟨x.nm.toArray⟩, .string ⟨x.on_.toArray⟩, .slice ad x.dirs.length cd, .slice as7 x.sels.length cs7] 61)) D x [.string ⟨x.nm.toArray⟩, .string ⟨x.on_.toArray⟩, .slice ad x.dirs.length cd, .slice as7 x.sels.length cs7] := fragOk.step (fun _ h => h) (fun b o hb' => World.cell?_of_block (a := ⟨b, o, none⟩) (HW1.out.2.1.block b (HD.out b hb'))) HE0.out
          have HCL : Calls Tryz.prog 71 #[.pointer (some ⟨R, 0, none⟩), .agg #[.string ⟨x.nm.toArray⟩, .string ⟨x.on_.toArray⟩, .slice ad x.dirs.length cd, .slice as7 x.sels.length cs7]] (wr.alloc (.cells #[.string ⟨x.nm.toArray⟩, .string ⟨x.on_.toArray⟩, .slice ad x.dirs.length cd, .slice as7 x.sels.length cs7] 61)) _ := HF.out x hmem s' [.string ⟨x.nm.toArray⟩, .string ⟨x.on_.toArray⟩, .slice ad x.dirs.length cd, .slice as7 x.sels.length cs7] _ HW1.out.1 HW1.out.2.1 hE' HL.out
          clear hE' hz hz' hmem
          go_wp2_with fail
          refine HCL.mono ?_
          rintro e w2 ⟨rfl, hk2⟩
          have HK2 := Lib.hid (HW1.out.trans hk2)
          clear hk2 HCL
          go_wp2_with fail
          go_roundg (xs.length - (i + 1))
          case measure => omega
          case rel => exact ⟨i + 1, _, by simp, by omega, rfl, HEQ, HK2.out⟩
        · have hi0 : decide ((0 : Int) < (i : Int)) = true := decide_eq_true (by omega)
          have hi1 : decide (0 < i) = true := decide_eq_true (by omega)
          have hz' : (i == 0) = false := by simpa using hz
          rw [hz'] at HEQ HL
          simp only [reduceIte, Bool.false_eq_true] at HEQ HL
          have hb0 : (wr.alloc (.cells #[.string ⟨x.nm.toArray⟩, .string ⟨x.on_.toArray⟩, .slice ad x.dirs.length cd, .slice as7 x.sels.length cs7] 61)).heap[wr.heap.size]? = some (.cells #[.string ⟨x.nm.toArray⟩, .string ⟨x.on_.toArray⟩, .slice ad x.dirs.length cd, .slice as7 x.sels.length cs7] 61 (0, 0)) := heap_alloc_new _ _
          have hT := txOne (v := bt) HW1.out
          have HCW := write_any (l := [bt]) (cap := 1) _ hT.1.1 hT.2 (show 1 ≤ 100 by decide) (Nat.le_refl _) (by
            have h1 := HM.out (wrT (vbl bt) s') x _ (Nat.le_refl _)
            exact Nat.le_trans h1 HL.out)
          have HCW : Calls Tryz.prog 69 #[.pointer (some ⟨R, 0, none⟩), .slice (some ⟨(wr.alloc (.cells #[.string ⟨x.nm.toArray⟩, .string ⟨x.on_.toArray⟩, .slice ad x.dirs.length cd, .slice as7 x.sels.length cs7] 61)).heap.size, 0, none⟩) 1 1] _ _ := HCW
          rw [show (wr.alloc (.cells #[.string ⟨x.nm.toArray⟩, .string ⟨x.on_.toArray⟩, .slice ad x.dirs.length cd, .slice as7 x.sels.length cs7] 61)).heap.size = wr.heap.size + 1 by simp] at HCW
          have HT1 := Lib.hid hT.1
          have HB0 := Lib.hid hb0
          clear hT hb0 hz hz'
          go_wp2_with fail
          refine HCW.mono ?_
          rintro e w2 ⟨rfl, hk2⟩
          have HW2 := Lib.hid (HW1.out.trans (HT1.out.trans hk2))
          have hbx := (HT1.out.trans hk2).box HB0.out (by decide) hbR
          have hbl : wr.heap.size < w2.heap.size := (Array.getElem?_eq_some_iff.1 hbx).1
          have q0 : w2.cell? ⟨wr.heap.size, 0, none⟩ = some (.string ⟨x.nm.toArray⟩) := by rw [Lib.cell_of_heap hbx]; rfl
          have q1 : w2.cell? ⟨wr.heap.size, 1, none⟩ = some (.string ⟨x.on_.toArray⟩) := by rw [Lib.cell_of_heap hbx]; rfl
          have q2 : w2.cell? ⟨wr.heap.size, 2, none⟩ = some (.slice ad x.dirs.length cd) := by rw [Lib.cell_of_heap hbx]; rfl
          have q3 : w2.cell? ⟨wr.heap.size, 3, none⟩ = some (.slice as7 x.sels.length cs7) := by rw [Lib.cell_of_heap hbx]; rfl
          have hE' : FragE w2 D x [.string ⟨x.nm.toArray⟩, .string ⟨x.on_.toArray⟩, .slice ad x.dirs.length cd, .slice as7 x.sels.length cs7] := fragOk.step (fun _ h => h) (fun b o hb' => World.cell?_of_block (a := ⟨b, o, none⟩) (HW2.out.2.1.block b (HD.out b hb'))) HE0.out
          have HCL : Calls Tryz.prog 71 #[.pointer (some ⟨R, 0, none⟩), .agg #[.string ⟨x.nm.toArray⟩, .string ⟨x.on_.toArray⟩, .slice ad x.dirs.length cd, .slice as7 x.sels.length cs7]] w2 _ := HF.out x hmem _ [.string ⟨x.nm.toArray⟩, .string ⟨x.on_.toArray⟩, .slice ad x.dirs.length cd, .slice as7 x.sels.length cs7] w2 HW2.out.1 HW2.out.2.1 hE' HL.out
          clear hE' hmem hk2 HCW hbx HB0 HT1
          go_wp2_with fail
          refine HCL.mono ?_
          rintro e w3 ⟨rfl, hk3⟩
          have HK3 := Lib.hid (HW2.out.trans hk3)
          clear hk3 HCL
          go_wp2_with fail
          go_roundg (xs.length - (i + 1))
          case measure => omega
          case rel => exact ⟨i + 1, _, by simp, by omega, rfl, HEQ, HK3.out⟩
    · have hd : decide ((i : Int) < (xs.length : Int)) = false := decide_eq_false (by omega)
      have hd2 : decide (i < xs.length) = false := decide_eq_false hlt
      have HE := Lib.hid (show svW P (vbl bt) true xs s = s' by rw [HS.out, List.drop_of_length_le (by omega)]; rfl)
      clear hk
      go_wp2_with fail
      go_end0
      rw [HE.out]
      exact ⟨rfl, HK.out⟩

end Go.Proofs.YtkfllppggjhhmaaGreatDoor
