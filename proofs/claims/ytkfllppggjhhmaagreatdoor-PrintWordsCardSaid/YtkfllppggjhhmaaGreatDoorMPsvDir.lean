/-
  print's writer: a value, an argument.
-/
import Derived.Test.YtkfllppggjhhmaaGreatDoorMV2
import Derived.Test.YtkfllppggjhhmaaGreatDoorMPmf
namespace Go.Proofs.YtkfllppggjhhmaaGreatDoor
open Go.RowKit

set_option maxHeartbeats 4000000 in
set_option maxRecDepth 100000 in
theorem pValW_any {N R k : Nat} {s : Ws} {D : Nat → Prop} {x : JV} {v : Value} (w : World) (h : Wv N R k s w) (hR : RdX w D x v) (hD : ∀ b, D b → b < N) (hvs : VS x) (hlen : (valW x s).out.length ≤ 140737488355328) :
    Calls Tryz.prog 156 #[.pointer (some ⟨R, 0, none⟩), v] w (WAns N R k (valW x s) w) := by
  obtain ⟨n, hR⟩ := hR
  obtain ⟨an, cn, ap, cp, rfl⟩ := hR.shape
  have HRB := Lib.hid (hR.toB (B := N) hD)
  have HW1 := Lib.hid ((Wk.refl h).alloc (.cells #[.int .i64 x.k, .string x.s, .slice an x.ns.length cn, .slice ap x.ps.length cp] 53))
  have HB0 := Lib.hid (show (w.alloc (.cells #[.int .i64 x.k, .string x.s, .slice an x.ns.length cn, .slice ap x.ps.length cp] 53)).heap[w.heap.size]? = some (.cells #[.int .i64 x.k, .string x.s, .slice an x.ns.length cn, .slice ap x.ps.length cp] 53 (0, 0)) from heap_alloc_new _ _)
  obtain ⟨c2, -, -, -, hRl⟩ := HW1.out.1.cells
  have hsz : (w.alloc (.cells #[.int .i64 x.k, .string x.s, .slice an x.ns.length cn, .slice ap x.ps.length cp] 53)).heap.size = w.heap.size + 1 := by simp
  have HW2 := Lib.hid (HW1.out.alloc (.cells #[.int .i64 (s.room : Int)] 3))
  have HB1 := Lib.hid (show ((w.alloc (.cells #[.int .i64 x.k, .string x.s, .slice an x.ns.length cn, .slice ap x.ps.length cp] 53)).alloc (.cells #[.int .i64 (s.room : Int)] 3)).heap[w.heap.size + 1]? = some (.cells #[.int .i64 (s.room : Int)] 3 (0, 0)) by rw [← hsz]; exact heap_alloc_new _ _)
  have hrm := h.rm
  have hNw := h.hN
  have hlR := h.lt
  have HC := mayFit_any 13 1 rfl n x _ ((w.alloc (.cells #[.int .i64 x.k, .string x.s, .slice an x.ns.length cn, .slice ap x.ps.length cp] 53)).alloc (.cells #[.int .i64 (s.room : Int)] 3)) N (w.heap.size + 1) s.room (HRB.out.below HW2.out.2.1) (by omega) HB1.out hrm
  have HM := Lib.hid (show valW x s = if (mfV 13 x s.room).isSome then wrT (valB x) s else s from rfl)
  have HLEN := Lib.hid hlen
  have HVS := Lib.hid hvs
  generalize mfV 13 x s.room = MF at *
  generalize valW x s = RES at *
  clear h hR hD hlen hvs
  go_enter Tryz.func156, Tryz.ntmps156
  go_wp2_with fail
  refine HC.mono ?_
  rintro e w3 ⟨rfl, ha3, -⟩
  have HW3 := Lib.hid (HW2.out.aw ha3 (by omega) hNw (by omega) (fun c fz e => by rw [HB1.out] at e; injection e with e; injection e with _ e _; exact absurd e (by decide)))
  have hbx : w3.heap[w.heap.size]? = some (.cells #[.int .i64 x.k, .string x.s, .slice an x.ns.length cn, .slice ap x.ps.length cp] 53 (0, 0)) := (ha3.block _ (by simp; omega) (by omega)).trans ((Below.heap_alloc _ _ _ (by simp)).trans HB0.out)
  have hbl : w.heap.size < w3.heap.size := (Array.getElem?_eq_some_iff.1 hbx).1
  have q0 : w3.cell? ⟨w.heap.size, 0, none⟩ = some (.int .i64 x.k) := by rw [Lib.cell_of_heap hbx]; rfl
  have q1 : w3.cell? ⟨w.heap.size, 1, none⟩ = some (.string x.s) := by rw [Lib.cell_of_heap hbx]; rfl
  have q2 : w3.cell? ⟨w.heap.size, 2, none⟩ = some (.slice an x.ns.length cn) := by rw [Lib.cell_of_heap hbx]; rfl
  have q3 : w3.cell? ⟨w.heap.size, 3, none⟩ = some (.slice ap x.ps.length cp) := by rw [Lib.cell_of_heap hbx]; rfl
  clear ha3 HC hbx c2
  cases hmf : MF.isSome with
  | false =>
    have HE := Lib.hid (show RES = s by rw [HM.out, hmf]; rfl)
    clear hmf
    go_wp2_with fail
    go_end0
    rw [HE.out]
    exact ⟨rfl, HW3.out⟩
  | true =>
    have HE := Lib.hid (show RES = wrs [valB x] s by rw [HM.out, hmf]; rfl)
    have HT := vtext_any N n x _ w3 (Nat.le_trans hNw (Nat.le_of_lt hbl) |> fun _ => HW3.out.1.hN) (HRB.out.below HW3.out.2.1) (Nat.le_trans (HVS.out 12) (by decide))
    clear hmf
    go_wp2_with fail
    refine HT.mono ?_
    rintro e w4 ⟨rfl, hb4⟩
    have HTB := Lib.hid (show vtextB x = valB x from rfl)
    generalize vtextB x = tb at *
    have HW4 := Lib.hid (HW3.out.below hb4)
    have hTx := txOne (v := ⟨tb.toArray⟩) HW4.out
    have HCW := write_any (l := [⟨tb.toArray⟩]) (cap := 1) _ hTx.1.1 hTx.2 (show 1 ≤ 100 by decide) (Nat.le_refl _) (by
      show (wrs [tb] s).out.length ≤ _
      rw [HTB.out, ← HE.out]
      exact HLEN.out)
    have HCW : Calls Tryz.prog 69 #[.pointer (some ⟨R, 0, none⟩), .slice (some ⟨w4.heap.size, 0, none⟩) 1 1] _ _ := HCW
    have HT1 := Lib.hid hTx.1
    clear hTx HT hb4
    go_wp2_with fail
    refine HCW.mono ?_
    rintro e w5 ⟨rfl, hk5⟩
    have HW5 := Lib.hid (HW4.out.trans (HT1.out.trans hk5))
    clear hk5 HCW
    go_wp2_with fail
    go_end0
    have := HW5.out
    rw [show wrs (List.map vbl [⟨tb.toArray⟩]) s = RES by rw [HE.out, ← HTB.out]; rfl] at this
    exact ⟨rfl, this⟩

set_option maxHeartbeats 4000000 in
set_option maxRecDepth 100000 in
theorem pArgW_any {N R k : Nat} {D : Nat → Prop} {x : ArgT} {cs : List Value} {s : Ws} (w : World) (h : Wv N R k s w) (hE : ArgE w D x cs) (hD : ∀ b, D b → b < N) (hlen : (argW x s).out.length ≤ 140737488355328) : Calls Tryz.prog 253 #[.pointer (some ⟨R, 0, none⟩), .agg cs.toArray] w (WAns N R k (argW x s) w) := by
  obtain ⟨⟨hz1, hvs⟩, c0, c1, c2, c3, rfl, hR⟩ := hE
  obtain ⟨an, cn, ap, cp, hsh⟩ := hR.shape
  obtain ⟨rfl, rfl, rfl, rfl⟩ := agg4_inj' hsh
  clear hsh
  have HW1 := Lib.hid ((Wk.refl h).alloc (.cells #[.string ⟨x.1.toArray⟩, .int .i64 x.2.k, .string x.2.s, .slice an x.2.ns.length cn, .slice ap x.2.ps.length cp] 55))
  have HB0 := Lib.hid (show (w.alloc (.cells #[.string ⟨x.1.toArray⟩, .int .i64 x.2.k, .string x.2.s, .slice an x.2.ns.length cn, .slice ap x.2.ps.length cp] 55)).heap[w.heap.size]? = some (.cells #[.string ⟨x.1.toArray⟩, .int .i64 x.2.k, .string x.2.s, .slice an x.2.ns.length cn, .slice ap x.2.ps.length cp] 55 (0, 0)) from heap_alloc_new _ _)
  have HM := Lib.hid (show argW x s = valW x.2 (wrs [x.1, [58]] s) from rfl)
  have hlR := h.lt
  have hbR : w.heap.size ≠ R := by omega
  have hT := txTwo (v := ⟨x.1.toArray⟩) (u := ⟨#[58]⟩) HW1.out
  have HCW := write_any (l := [⟨x.1.toArray⟩, ⟨#[58]⟩]) (cap := 2) _ hT.1.1 hT.2 (show 2 ≤ 100 by decide) (Nat.le_refl _) (by
    have h1 := valW_k (I := Mo (wrs [x.1, [58]] s)) (mo_wr _) x.2 _ (Nat.le_refl _)
    exact Nat.le_trans h1 hlen)
  have HCW : Calls Tryz.prog 69 #[.pointer (some ⟨R, 0, none⟩), .slice (some ⟨(w.alloc (.cells #[.string ⟨x.1.toArray⟩, .int .i64 x.2.k, .string x.2.s, .slice an x.2.ns.length cn, .slice ap x.2.ps.length cp] 55)).heap.size, 0, none⟩) 2 2] _ _ := HCW
  have HT1 := Lib.hid hT.1
  clear hT
  rw [show (w.alloc (.cells #[.string ⟨x.1.toArray⟩, .int .i64 x.2.k, .string x.2.s, .slice an x.2.ns.length cn, .slice ap x.2.ps.length cp] 55)).heap.size = w.heap.size + 1 by simp] at HCW
  have HRD := Lib.hid hR
  have HDD := Lib.hid hD
  have HLEN := Lib.hid hlen
  have HVS := Lib.hid hvs
  clear h hR hD hlen hvs
  generalize argW x s = RES at *
  show Calls Tryz.prog 253 #[.pointer (some ⟨R, 0, none⟩), .agg #[.string ⟨x.1.toArray⟩, .int .i64 x.2.k, .string x.2.s, .slice an x.2.ns.length cn, .slice ap x.2.ps.length cp]] w _
  go_enter Tryz.func253, Tryz.ntmps253
  go_wp2_with fail
  refine HCW.mono ?_
  rintro e w2 ⟨rfl, hk2⟩
  have HW2 := Lib.hid (HW1.out.trans (HT1.out.trans hk2))
  have hbx := (HT1.out.trans hk2).box HB0.out (by decide) hbR
  have hbl : w.heap.size < w2.heap.size := (Array.getElem?_eq_some_iff.1 hbx).1
  have q0 : w2.cell? ⟨w.heap.size, 0, none⟩ = some (.string ⟨x.1.toArray⟩) := by rw [Lib.cell_of_heap hbx]; rfl
  have q1 : w2.cell? ⟨w.heap.size, 1, none⟩ = some (.int .i64 x.2.k) := by rw [Lib.cell_of_heap hbx]; rfl
  have q2 : w2.cell? ⟨w.heap.size, 2, none⟩ = some (.string x.2.s) := by rw [Lib.cell_of_heap hbx]; rfl
  have q3 : w2.cell? ⟨w.heap.size, 3, none⟩ = some (.slice an x.2.ns.length cn) := by rw [Lib.cell_of_heap hbx]; rfl
  have q4 : w2.cell? ⟨w.heap.size, 4, none⟩ = some (.slice ap x.2.ps.length cp) := by rw [Lib.cell_of_heap hbx]; rfl
  have HC := pValW_any w2 HW2.out.1 (RdX.step (fun _ h => h) (fun b o hb => World.cell?_of_block (a := ⟨b, o, none⟩) (HW2.out.2.1.block b (HDD.out b hb))) HRD.out) HDD.out HVS.out (show (valW x.2 (wrs [x.1, [58]] s)).out.length ≤ _ by rw [← HM.out]; exact HLEN.out)
  clear hk2 HCW hbx
  go_wp2_with fail
  refine HC.mono ?_
  rintro e w3 ⟨rfl, hk3⟩
  have HW3 := Lib.hid (HW2.out.trans hk3)
  clear hk3 HC
  go_wp2_with fail
  go_end0
  rw [HM.out]
  exact ⟨rfl, HW3.out⟩

end Go.Proofs.YtkfllppggjhhmaaGreatDoor
/-
  print's writer: parts of type api.Arg, one behind the other.
-/
namespace Go.Proofs.YtkfllppggjhhmaaGreatDoor
open Go.RowKit

set_option maxHeartbeats 8000000 in
set_option maxRecDepth 100000 in
theorem svArg_any {N R k : Nat} {D : Nat → Prop} {xs : List ArgT} {v : Value} {s : Ws} (P : ArgT → Ws → Ws) (bt : ByteArray) (w : World) (h : Wv N R k s w) (hr : RowD ArgE 5 w D xs v) (hD : ∀ b, D b → b < N)
    (hF : ∀ x ∈ xs, ∀ s' cs W, Wv N R k s' W → Below N w W → ArgE W D x cs → (P x s').out.length ≤ 140737488355328 → Calls Tryz.prog 253 #[.pointer (some ⟨R, 0, none⟩), .agg cs.toArray] W (WAns N R k (P x s') W))
    (hM : ∀ s0 x s', Mo s0 s' → Mo s0 (P x s')) (hlen : (svW P (vbl bt) true xs s).out.length ≤ 140737488355328) :
    Calls Tryz.prog 284 #[.pointer (some ⟨R, 0, none⟩), .func (.func 253) #[.pointer (some ⟨R, 0, none⟩)] #[], .string bt, v] w (WAns N R k (svW P (vbl bt) true xs s) w) := by
  obtain ⟨a, cap, rfl, hx6, hcap, hrow⟩ := hr
  have HROW := Lib.hid hrow
  have HF := Lib.hid hF
  have HD := Lib.hid hD
  have HM := Lib.hid hM
  have HLEN := Lib.hid hlen
  have HH := Lib.hid h
  clear hrow hF hD hM hlen h
  go_enter Tryz.func284, Tryz.ntmps284
  go_wp2_with fail
  go_loopg [8, 9, 12] xs.length (fun j _ _ v12 wr => ∃ (i : Nat) (s' : Ws), v12 = .int .i64 (i : Int) ∧ i ≤ xs.length ∧ j = xs.length - i ∧ Hid (svW P (vbl bt) true xs s = svW P (vbl bt) (i == 0) (xs.drop i) s') ∧ Wk N R k s' w wr)
  case atStart => exact ⟨0, s, rfl, Nat.zero_le _, rfl, Lib.hid (by rw [List.drop_zero]; rfl), .refl HH.out⟩
  case round =>
    obtain ⟨i, s', rfl, hi, hj, HS, hk⟩ := hrel
    have HK := Lib.hid hk
    have hw : IntKind.i64.wrap ((i : Int) + 1) = (i : Int) + 1 := IntWalk.i64_in _ (by omega)
    obtain ⟨-, c3, -, -, hRl⟩ := hk.1.cells
    by_cases hlt : i < xs.length
    · have hd : decide ((i : Int) < (xs.length : Int)) = true := decide_eq_true (by omega)
      have hd2 : decide (i < xs.length) = true := decide_eq_true hlt
      obtain ⟨g, off, rfl, hDg, hel⟩ := HROW.out (by omega)
      have hx : xs[i]? = some xs[i] := List.getElem?_eq_getElem hlt
      have hmem := List.getElem_mem hlt
      obtain ⟨cs, hcl, hcs, hE⟩ := hel i _ hx
      have HS2 := Lib.hid (show svW P (vbl bt) true xs s = if s'.full then s' else svW P (vbl bt) false (xs.drop (i + 1)) (P xs[i] (if i == 0 then s' else wrT (vbl bt) s')) by rw [HS.out, List.drop_eq_getElem_cons hlt]; rfl)
      generalize xs[i] = x at *
      obtain ⟨hz1, c0, c1, c2, c3, rfl, hE1⟩ := hE
      have hgl : g < wr.heap.size := by have := HD.out g hDg; have := hk.1.hN; omega
      have hce : ∀ o, wr.cell? ⟨g, o, none⟩ = w.cell? ⟨g, o, none⟩ := fun o => World.cell?_of_block (a := ⟨g, o, none⟩) (hk.2.1.block g (HD.out g hDg))
      obtain ⟨an, cn, ap, cp, hsh⟩ := hE1.shape
      obtain ⟨rfl, rfl, rfl, rfl⟩ := agg4_inj' hsh
      have k0 : wr.cell? ⟨g, off + i * 5, none⟩ = some (.string ⟨x.1.toArray⟩) := (hce _).trans (hcs 0 _ rfl)
      have k1 : wr.cell? ⟨g, off + i * 5 + 1, none⟩ = some (.int .i64 x.2.k) := (hce _).trans (hcs 1 _ rfl)
      have k2 : wr.cell? ⟨g, off + i * 5 + 2, none⟩ = some (.string x.2.s) := (hce _).trans (hcs 2 _ rfl)
      have k3 : wr.cell? ⟨g, off + i * 5 + 3, none⟩ = some (.slice an x.2.ns.length cn) := (hce _).trans (hcs 3 _ rfl)
      have k4 : wr.cell? ⟨g, off + i * 5 + 4, none⟩ = some (.slice ap x.2.ps.length cp) := (hce _).trans (hcs 4 _ rfl)
      have hicp : i < cap := by omega
      have HE0 := Lib.hid (show ArgE w D x [.string ⟨x.1.toArray⟩, .int .i64 x.2.k, .string x.2.s, .slice an x.2.ns.length cn, .slice ap x.2.ps.length cp] from ⟨hz1, _, _, _, _, rfl, hE1⟩)
      have HW1 := Lib.hid (hk.alloc (.cells #[.string ⟨x.1.toArray⟩, .int .i64 x.2.k, .string x.2.s, .slice an x.2.ns.length cn, .slice ap x.2.ps.length cp] 55))
      have hbR : wr.heap.size ≠ R := by omega
      clear hk hel hcs hce hcl hx hE1 hsh
      cases hf : s'.full with
      | true =>
        rw [hf] at c3
        have HE := Lib.hid (show svW P (vbl bt) true xs s = s' by rw [HS2.out, if_pos hf])
        clear hf
        go_wp2_with fail
        refine bodyPost_ret (v := .tuple #[]) (results_none rfl _ _ _) rfl ?_
        rw [HE.out]
        exact ⟨rfl, HW1.out⟩
      | false =>
        rw [hf] at c3
        have HEQ := Lib.hid (show svW P (vbl bt) true xs s = svW P (vbl bt) false (xs.drop (i + 1)) (P x (if i == 0 then s' else wrT (vbl bt) s')) by rw [HS2.out, if_neg (by rw [hf]; decide)])
        clear hf
        have HL := Lib.hid (show (P x (if i == 0 then s' else wrT (vbl bt) s')).out.length ≤ 140737488355328 by
          have h1 := svW_k (I := Mo (P x (if i == 0 then s' else wrT (vbl bt) s'))) (mo_wr _) (fun x s' h => HM.out _ x s' h) (vbl bt) false (xs.drop (i + 1)) _ (Nat.le_refl _)
          unfold Mo at h1
          rw [← HEQ.out] at h1
          exact Nat.le_trans h1 HLEN.out)
        by_cases hz : i = 0
        · have hi0 : decide ((0 : Int) < (i : Int)) = false := decide_eq_false (by omega)
          have hi1 : decide (0 < i) = false := decide_eq_false (by omega)
          have hz' : (i == 0) = true := by simpa using hz
          rw [hz'] at HEQ HL
          simp only [reduceIte] at HEQ HL
          have hE' : ArgE (wr.alloc (.cells #[.string ⟨x.1.toArray⟩, .int .i64 x.2.k, .string x.2.s, .slice an x.2.ns.length cn, .slice ap x.2.ps.length cp] 55)) D x [.string ⟨x.1.toArray⟩, .int .i64 x.2.k, .string x.2.s, .slice an x.2.ns.length cn, .slice ap x.2.ps.length cp] := argOk.step (fun _ h => h) (fun b o hb' => World.cell?_of_block (a := ⟨b, o, none⟩) (HW1.out.2.1.block b (HD.out b hb'))) HE0.out
          have HCL : Calls Tryz.prog 253 #[.pointer (some ⟨R, 0, none⟩), .agg #[.string ⟨x.1.toArray⟩, .int .i64 x.2.k, .string x.2.s, .slice an x.2.ns.length cn, .slice ap x.2.ps.length cp]] (wr.alloc (.cells #[.string ⟨x.1.toArray⟩, .int .i64 x.2.k, .string x.2.s, .slice an x.2.ns.length cn, .slice ap x.2.ps.length cp] 55)) _ := HF.out x hmem s' [.string ⟨x.1.toArray⟩, .int .i64 x.2.k, .string x.2.s, .slice an x.2.ns.length cn, .slice ap x.2.ps.length cp] _ HW1.out.1 HW1.out.2.1 hE' HL.out
          clear hE' hz hz' hmem
          go_wp2_with fail
          refine HCL.mono ?_
          rintro e w2 ⟨rfl, hk2⟩
          have HK2 := Lib.hid (HW1.out.trans hk2)
          clear hk2 HCL
          go_wp2_with fail
          go_roundg (xs.length - (i + 1))
          case measure => omega
          case rel => exact ⟨i + 1, _, by simp, by omega, rfl, HEQ, HK2.out⟩
        · have hi0 : decide ((0 : Int) < (i : Int)) = true := decide_eq_true (by omega)
          have hi1 : decide (0 < i) = true := decide_eq_true (by omega)
          have hz' : (i == 0) = false := by simpa using hz
          rw [hz'] at HEQ HL
          simp only [reduceIte, Bool.false_eq_true] at HEQ HL
          have hb0 : (wr.alloc (.cells #[.string ⟨x.1.toArray⟩, .int .i64 x.2.k, .string x.2.s, .slice an x.2.ns.length cn, .slice ap x.2.ps.length cp] 55)).heap[wr.heap.size]? = some (.cells #[.string ⟨x.1.toArray⟩, .int .i64 x.2.k, .string x.2.s, .slice an x.2.ns.length cn, .slice ap x.2.ps.length cp] 55 (0, 0)) := heap_alloc_new _ _
          have hT := txOne (v := bt) HW1.out
          have HCW := write_any (l := [bt]) (cap := 1) _ hT.1.1 hT.2 (show 1 ≤ 100 by decide) (Nat.le_refl _) (by
            have h1 := HM.out (wrT (vbl bt) s') x _ (Nat.le_refl _)
            exact Nat.le_trans h1 HL.out)
          have HCW : Calls Tryz.prog 69 #[.pointer (some ⟨R, 0, none⟩), .slice (some ⟨(wr.alloc (.cells #[.string ⟨x.1.toArray⟩, .int .i64 x.2.k, .string x.2.s, .slice an x.2.ns.length cn, .slice ap x.2.ps.length cp] 55)).heap.size, 0, none⟩) 1 1] _ _ := HCW
          rw [show (wr.alloc (.cells #[.string ⟨x.1.toArray⟩, .int .i64 x.2.k, .string x.2.s, .slice an x.2.ns.length cn, .slice ap x.2.ps.length cp] 55)).heap.size = wr.heap.size + 1 by simp] at HCW
          have HT1 := Lib.hid hT.1
          have HB0 := Lib.hid hb0
          clear hT hb0 hz hz'
          go_wp2_with fail
          refine HCW.mono ?_
          rintro e w2 ⟨rfl, hk2⟩
          have HW2 := Lib.hid (HW1.out.trans (HT1.out.trans hk2))
          have hbx := (HT1.out.trans hk2).box HB0.out (by decide) hbR
          have hbl : wr.heap.size < w2.heap.size := (Array.getElem?_eq_some_iff.1 hbx).1
          have q0 : w2.cell? ⟨wr.heap.size, 0, none⟩ = some (.string ⟨x.1.toArray⟩) := by rw [Lib.cell_of_heap hbx]; rfl
          have q1 : w2.cell? ⟨wr.heap.size, 1, none⟩ = some (.int .i64 x.2.k) := by rw [Lib.cell_of_heap hbx]; rfl
          have q2 : w2.cell? ⟨wr.heap.size, 2, none⟩ = some (.string x.2.s) := by rw [Lib.cell_of_heap hbx]; rfl
          have q3 : w2.cell? ⟨wr.heap.size, 3, none⟩ = some (.slice an x.2.ns.length cn) := by rw [Lib.cell_of_heap hbx]; rfl
          have q4 : w2.cell? ⟨wr.heap.size, 4, none⟩ = some (.slice ap x.2.ps.length cp) := by rw [Lib.cell_of_heap hbx]; rfl
          have hE' : ArgE w2 D x [.string ⟨x.1.toArray⟩, .int .i64 x.2.k, .string x.2.s, .slice an x.2.ns.length cn, .slice ap x.2.ps.length cp] := argOk.step (fun _ h => h) (fun b o hb' => World.cell?_of_block (a := ⟨b, o, none⟩) (HW2.out.2.1.block b (HD.out b hb'))) HE0.out
          have HCL : Calls Tryz.prog 253 #[.pointer (some ⟨R, 0, none⟩), .agg #[.string ⟨x.1.toArray⟩, .int .i64 x.2.k, .string x.2.s, .slice an x.2.ns.length cn, .slice ap x.2.ps.length cp]] w2 _ := HF.out x hmem _ [.string ⟨x.1.toArray⟩, .int .i64 x.2.k, .string x.2.s, .slice an x.2.ns.length cn, .slice ap x.2.ps.length cp] w2 HW2.out.1 HW2.out.2.1 hE' HL.out
          clear hE' hmem hk2 HCW hbx HB0 HT1
          go_wp2_with fail
          refine HCL.mono ?_
          rintro e w3 ⟨rfl, hk3⟩
          have HK3 := Lib.hid (HW2.out.trans hk3)
          clear hk3 HCL
          go_wp2_with fail
          go_roundg (xs.length - (i + 1))
          case measure => omega
          case rel => exact ⟨i + 1, _, by simp, by omega, rfl, HEQ, HK3.out⟩
    · have hd : decide ((i : Int) < (xs.length : Int)) = false := decide_eq_false (by omega)
      have hd2 : decide (i < xs.length) = false := decide_eq_false hlt
      have HE := Lib.hid (show svW P (vbl bt) true xs s = s' by rw [HS.out, List.drop_of_length_le (by omega)]; rfl)
      clear hk
      go_wp2_with fail
      go_end0
      rw [HE.out]
      exact ⟨rfl, HK.out⟩

end Go.Proofs.YtkfllppggjhhmaaGreatDoor
/-
  print's writer: parts of type api.Dir, one behind the other.
-/
namespace Go.Proofs.YtkfllppggjhhmaaGreatDoor
open Go.RowKit

set_option maxHeartbeats 8000000 in
set_option maxRecDepth 100000 in
theorem svDir_any {N R k : Nat} {D : Nat → Prop} {xs : List DirT} {v : Value} {s : Ws} (P : DirT → Ws → Ws) (bt : ByteArray) (w : World) (h : Wv N R k s w) (hr : RowD DirE 2 w D xs v) (hD : ∀ b, D b → b < N)
    (hF : ∀ x ∈ xs, ∀ s' cs W, Wv N R k s' W → Below N w W → DirE W D x cs → (P x s').out.length ≤ 140737488355328 → Calls Tryz.prog 158 #[.pointer (some ⟨R, 0, none⟩), .agg cs.toArray] W (WAns N R k (P x s') W))
    (hM : ∀ s0 x s', Mo s0 s' → Mo s0 (P x s')) (hlen : (svW P (vbl bt) true xs s).out.length ≤ 140737488355328) :
    Calls Tryz.prog 157 #[.pointer (some ⟨R, 0, none⟩), .func (.func 158) #[.pointer (some ⟨R, 0, none⟩)] #[], .string bt, v] w (WAns N R k (svW P (vbl bt) true xs s) w) := by
  obtain ⟨a, cap, rfl, hx6, hcap, hrow⟩ := hr
  have HROW := Lib.hid hrow
  have HF := Lib.hid hF
  have HD := Lib.hid hD
  have HM := Lib.hid hM
  have HLEN := Lib.hid hlen
  have HH := Lib.hid h
  clear hrow hF hD hM hlen h
  go_enter Tryz.func157, Tryz.ntmps157
  go_wp2_with fail
  go_loopg [8, 9, 12] xs.length (fun j _ _ v12 wr => ∃ (i : Nat) (s' : Ws), v12 = .int .i64 (i : Int) ∧ i ≤ xs.length ∧ j = xs.length - i ∧ Hid (svW P (vbl bt) true xs s = svW P (vbl bt) (i == 0) (xs.drop i) s') ∧ Wk N R k s' w wr)
  case atStart => exact ⟨0, s, rfl, Nat.zero_le _, rfl, Lib.hid (by rw [List.drop_zero]; rfl), .refl HH.out⟩
  case round =>
    obtain ⟨i, s', rfl, hi, hj, HS, hk⟩ := hrel
    have HK := Lib.hid hk
    have hw : IntKind.i64.wrap ((i : Int) + 1) = (i : Int) + 1 := IntWalk.i64_in _ (by omega)
    obtain ⟨-, c3, -, -, hRl⟩ := hk.1.cells
    by_cases hlt : i < xs.length
    · have hd : decide ((i : Int) < (xs.length : Int)) = true := decide_eq_true (by omega)
      have hd2 : decide (i < xs.length) = true := decide_eq_true hlt
      obtain ⟨g, off, rfl, hDg, hel⟩ := HROW.out (by omega)
      have hx : xs[i]? = some xs[i] := List.getElem?_eq_getElem hlt
      have hmem := List.getElem_mem hlt
      obtain ⟨cs, hcl, hcs, hE⟩ := hel i _ hx
      have HS2 := Lib.hid (show svW P (vbl bt) true xs s = if s'.full then s' else svW P (vbl bt) false (xs.drop (i + 1)) (P xs[i] (if i == 0 then s' else wrT (vbl bt) s')) by rw [HS.out, List.drop_eq_getElem_cons hlt]; rfl)
      generalize xs[i] = x at *
      obtain ⟨hz1, v1, rfl, hE1⟩ := hE
      have hgl : g < wr.heap.size := by have := HD.out g hDg; have := hk.1.hN; omega
      have hce : ∀ o, wr.cell? ⟨g, o, none⟩ = w.cell? ⟨g, o, none⟩ := fun o => World.cell?_of_block (a := ⟨g, o, none⟩) (hk.2.1.block g (HD.out g hDg))
      obtain ⟨an, cn, rfl⟩ := hE1.shape
      have k0 : wr.cell? ⟨g, off + i * 2, none⟩ = some (.string ⟨x.1.toArray⟩) := (hce _).trans (hcs 0 _ rfl)
      have k1 : wr.cell? ⟨g, off + i * 2 + 1, none⟩ = some (.slice an x.2.length cn) := (hce _).trans (hcs 1 _ rfl)
      have hicp : i < cap := by omega
      have HE0 := Lib.hid (show DirE w D x [.string ⟨x.1.toArray⟩, .slice an x.2.length cn] from ⟨hz1, _, rfl, hE1⟩)
      have HW1 := Lib.hid (hk.alloc (.cells #[.string ⟨x.1.toArray⟩, .slice an x.2.length cn] 67))
      have hbR : wr.heap.size ≠ R := by omega
      clear hk hel hcs hce hcl hx hE1
      cases hf : s'.full with
      | true =>
        rw [hf] at c3
        have HE := Lib.hid (show svW P (vbl bt) true xs s = s' by rw [HS2.out, if_pos hf])
        clear hf
        go_wp2_with fail
        refine bodyPost_ret (v := .tuple #[]) (results_none rfl _ _ _) rfl ?_
        rw [HE.out]
        exact ⟨rfl, HW1.out⟩
      | false =>
        rw [hf] at c3
        have HEQ := Lib.hid (show svW P (vbl bt) true xs s = svW P (vbl bt) false (xs.drop (i + 1)) (P x (if i == 0 then s' else wrT (vbl bt) s')) by rw [HS2.out, if_neg (by rw [hf]; decide)])
        clear hf
        have HL := Lib.hid (show (P x (if i == 0 then s' else wrT (vbl bt) s')).out.length ≤ 140737488355328 by
          have h1 := svW_k (I := Mo (P x (if i == 0 then s' else wrT (vbl bt) s'))) (mo_wr _) (fun x s' h => HM.out _ x s' h) (vbl bt) false (xs.drop (i + 1)) _ (Nat.le_refl _)
          unfold Mo at h1
          rw [← HEQ.out] at h1
          exact Nat.le_trans h1 HLEN.out)
        by_cases hz : i = 0
        · have hi0 : decide ((0 : Int) < (i : Int)) = false := decide_eq_false (by omega)
          have hi1 : decide (0 < i) = false := decide_eq_false (by omega)
          have hz' : (i == 0) = true := by simpa using hz
          rw [hz'] at HEQ HL
          simp only [reduceIte] at HEQ HL
          have hE' : DirE (wr.alloc (.cells #[.string ⟨x.1.toArray⟩, .slice an x.2.length cn] 67)) D x [.string ⟨x.1.toArray⟩, .slice an x.2.length cn] := dirOk.step (fun _ h => h) (fun b o hb' => World.cell?_of_block (a := ⟨b, o, none⟩) (HW1.out.2.1.block b (HD.out b hb'))) HE0.out
          have HCL : Calls Tryz.prog 158 #[.pointer (some ⟨R, 0, none⟩), .agg #[.string ⟨x.1.toArray⟩, .slice an x.2.length cn]] (wr.alloc (.cells #[.string ⟨x.1.toArray⟩, .slice an x.2.length cn] 67)) _ := HF.out x hmem s' [.string ⟨x.1.toArray⟩, .slice an x.2.length cn] _ HW1.out.1 HW1.out.2.1 hE' HL.out
          clear hE' hz hz' hmem
          go_wp2_with fail
          refine HCL.mono ?_
          rintro e w2 ⟨rfl, hk2⟩
          have HK2 := Lib.hid (HW1.out.trans hk2)
          clear hk2 HCL
          go_wp2_with fail
          go_roundg (xs.length - (i + 1))
          case measure => omega
          case rel => exact ⟨i + 1, _, by simp, by omega, rfl, HEQ, HK2.out⟩
        · have hi0 : decide ((0 : Int) < (i : Int)) = true := decide_eq_true (by omega)
          have hi1 : decide (0 < i) = true := decide_eq_true (by omega)
          have hz' : (i == 0) = false := by simpa using hz
          rw [hz'] at HEQ HL
          simp only [reduceIte, Bool.false_eq_true] at HEQ HL
          have hb0 : (wr.alloc (.cells #[.string ⟨x.1.toArray⟩, .slice an x.2.length cn] 67)).heap[wr.heap.size]? = some (.cells #[.string ⟨x.1.toArray⟩, .slice an x.2.length cn] 67 (0, 0)) := heap_alloc_new _ _
          have hT := txOne (v := bt) HW1.out
          have HCW := write_any (l := [bt]) (cap := 1) _ hT.1.1 hT.2 (show 1 ≤ 100 by decide) (Nat.le_refl _) (by
            have h1 := HM.out (wrT (vbl bt) s') x _ (Nat.le_refl _)
            exact Nat.le_trans h1 HL.out)
          have HCW : Calls Tryz.prog 69 #[.pointer (some ⟨R, 0, none⟩), .slice (some ⟨(wr.alloc (.cells #[.string ⟨x.1.toArray⟩, .slice an x.2.length cn] 67)).heap.size, 0, none⟩) 1 1] _ _ := HCW
          rw [show (wr.alloc (.cells #[.string ⟨x.1.toArray⟩, .slice an x.2.length cn] 67)).heap.size = wr.heap.size + 1 by simp] at HCW
          have HT1 := Lib.hid hT.1
          have HB0 := Lib.hid hb0
          clear hT hb0 hz hz'
          go_wp2_with fail
          refine HCW.mono ?_
          rintro e w2 ⟨rfl, hk2⟩
          have HW2 := Lib.hid (HW1.out.trans (HT1.out.trans hk2))
          have hbx := (HT1.out.trans hk2).box HB0.out (by decide) hbR
          have hbl : wr.heap.size < w2.heap.size := (Array.getElem?_eq_some_iff.1 hbx).1
          have q0 : w2.cell? ⟨wr.heap.size, 0, none⟩ = some (.string ⟨x.1.toArray⟩) := by rw [Lib.cell_of_heap hbx]; rfl
          have q1 : w2.cell? ⟨wr.heap.size, 1, none⟩ = some (.slice an x.2.length cn) := by rw [Lib.cell_of_heap hbx]; rfl
          have hE' : DirE w2 D x [.string ⟨x.1.toArray⟩, .slice an x.2.length cn] := dirOk.step (fun _ h => h) (fun b o hb' => World.cell?_of_block (a := ⟨b, o, none⟩) (HW2.out.2.1.block b (HD.out b hb'))) HE0.out
          have HCL : Calls Tryz.prog 158 #[.pointer (some ⟨R, 0, none⟩), .agg #[.string ⟨x.1.toArray⟩, .slice an x.2.length cn]] w2 _ := HF.out x hmem _ [.string ⟨x.1.toArray⟩, .slice an x.2.length cn] w2 HW2.out.1 HW2.out.2.1 hE' HL.out
          clear hE' hmem hk2 HCW hbx HB0 HT1
          go_wp2_with fail
          refine HCL.mono ?_
          rintro e w3 ⟨rfl, hk3⟩
          have HK3 := Lib.hid (HW2.out.trans hk3)
          clear hk3 HCL
          go_wp2_with fail
          go_roundg (xs.length - (i + 1))
          case measure => omega
          case rel => exact ⟨i + 1, _, by simp, by omega, rfl, HEQ, HK3.out⟩
    · have hd : decide ((i : Int) < (xs.length : Int)) = false := decide_eq_false (by omega)
      have hd2 : decide (i < xs.length) = false := decide_eq_false hlt
      have HE := Lib.hid (show svW P (vbl bt) true xs s = s' by rw [HS.out, List.drop_of_length_le (by omega)]; rfl)
      clear hk
      go_wp2_with fail
      go_end0
      rw [HE.out]
      exact ⟨rfl, HK.out⟩

end Go.Proofs.YtkfllppggjhhmaaGreatDoor
