/-
  print's writer: arguments, directives.
-/
import Derived.Test.YtkfllppggjhhmaaGreatDoorMPsvDir
import Derived.Test.YtkfllppggjhhmaaGreatDoorMV2
namespace Go.Proofs.YtkfllppggjhhmaaGreatDoor
open Go.RowKit

set_option maxHeartbeats 4000000 in
set_option maxRecDepth 100000 in
theorem brArg_any {N R k : Nat} {D : Nat → Prop} {xs : List ArgT} {v : Value} {s : Ws} (P : ArgT → Ws → Ws) (w : World) (h : Wv N R k s w) (hr : RowD ArgE 5 w D xs v) (hD : ∀ b, D b → b < N)
    (hF : ∀ x ∈ xs, ∀ s' cs W, Wv N R k s' W → Below N w W → ArgE W D x cs → (P x s').out.length ≤ 140737488355328 → Calls Tryz.prog 253 #[.pointer (some ⟨R, 0, none⟩), .agg cs.toArray] W (WAns N R k (P x s') W))
    (hM : ∀ s0 x s', Mo s0 s' → Mo s0 (P x s')) (hlen : (brW P xs s).out.length ≤ 140737488355328) :
    Calls Tryz.prog 252 #[.pointer (some ⟨R, 0, none⟩), .func (.func 253) #[.pointer (some ⟨R, 0, none⟩)] #[], v] w (WAns N R k (brW P xs s) w) := by
  obtain ⟨a, cap, hv⟩ := hr.shape
  by_cases h0 : xs.length = 0
  · have HK := Lib.hid (Wk.refl h)
    have HE := Lib.hid (show brW P xs s = s by rw [List.eq_nil_of_length_eq_zero h0]; rfl)
    rw [h0] at hv
    subst hv
    clear hF hM hlen hr hD h h0
    generalize brW P xs s = RES at *
    go_enter Tryz.func252, Tryz.ntmps252
    go_wp2_with fail
    refine bodyPost_ret (v := .tuple #[]) (results_none rfl _ _ _) rfl ?_
    rw [HE.out]
    exact ⟨rfl, HK.out⟩
  · have he : ((xs.length : Int) == 0) = false := by rw [beq_eq_false_iff_ne]; omega
    have he2 : (xs.length == 0) = false := by rw [beq_eq_false_iff_ne]; omega
    have HM0 := Lib.hid (show brW P xs s = wrs [[41]] (svW P [32] true xs (wrs [[40]] s)) by
      unfold brW
      rw [if_neg (by cases xs with
        | nil => exact absurd rfl h0
        | cons _ _ => exact Bool.false_ne_true)]
      rfl)
    have hl3 : (wrs [[41]] (svW P [32] true xs (wrs [[40]] s))).out.length ≤ 140737488355328 := by rw [← HM0.out]; exact hlen
    have hl2 : (svW P [32] true xs (wrs [[40]] s)).out.length ≤ 140737488355328 := Nat.le_trans (wrs_k (I := Mo (svW P [32] true xs (wrs [[40]] s))) (mo_wr _) [[41]] _ (Nat.le_refl _)) hl3
    have hl1 : (wrs [[40]] s).out.length ≤ 140737488355328 := Nat.le_trans (svW_k (I := Mo (wrs [[40]] s)) (mo_wr _) (fun x s' h => hM _ x s' h) _ _ _ _ (Nat.le_refl _)) hl2
    have HR := Lib.hid hr
    have HF := Lib.hid hF
    have HD := Lib.hid hD
    have HMO := Lib.hid hM
    have HL2 := Lib.hid hl2
    have HL3 := Lib.hid hl3
    subst hv
    have hT := txOne (v := ⟨#[40]⟩) (Wk.refl h)
    have HCW := write_any (l := [⟨#[40]⟩]) (cap := 1) _ hT.1.1 hT.2 (show 1 ≤ 100 by decide) (Nat.le_refl _) hl1
    have HCW : Calls Tryz.prog 69 #[.pointer (some ⟨R, 0, none⟩), .slice (some ⟨w.heap.size, 0, none⟩) 1 1] _ _ := HCW
    have HT1 := Lib.hid hT.1
    clear hT
    clear hr hF hD hM hlen h hl1 hl2 hl3 h0
    generalize brW P xs s = RES at *
    go_enter Tryz.func252, Tryz.ntmps252
    go_wp2_with fail
    refine HCW.mono ?_
    rintro e w2 ⟨rfl, hk2⟩
    have HW2 : Hid (Wk N R k (wrs [[40]] s) w w2) := Lib.hid (HT1.out.trans hk2)
    have HC := svArg_any P ⟨#[32]⟩ w2 HW2.out.1 (RowD.step argOk (fun _ h => h) (fun b o hb => World.cell?_of_block (a := ⟨b, o, none⟩) (HW2.out.2.1.block b (HD.out b hb))) HR.out) HD.out (fun x hx s' cs W hv hb hE hl => HF.out x hx s' cs W hv (HW2.out.2.1.trans hb) hE hl) HMO.out HL2.out
    clear hk2 HCW
    go_wp2_with fail
    refine HC.mono ?_
    rintro e w3 ⟨rfl, hk3⟩
    have HW3 : Hid (Wk N R k (svW P [32] true xs (wrs [[40]] s)) w w3) := Lib.hid (HW2.out.trans hk3)
    have hT := txOne (v := ⟨#[41]⟩) HW3.out
    have HCW := write_any (l := [⟨#[41]⟩]) (cap := 1) _ hT.1.1 hT.2 (show 1 ≤ 100 by decide) (Nat.le_refl _) HL3.out
    have HCW : Calls Tryz.prog 69 #[.pointer (some ⟨R, 0, none⟩), .slice (some ⟨w3.heap.size, 0, none⟩) 1 1] _ _ := HCW
    clear HT1
    have HT1 := Lib.hid hT.1
    clear hT
    clear hk3 HC
    go_wp2_with fail
    refine HCW.mono ?_
    rintro e w4 ⟨rfl, hk4⟩
    have HW4 : Hid (Wk N R k (wrs [[41]] (svW P [32] true xs (wrs [[40]] s))) w w4) := Lib.hid (HW3.out.trans (HT1.out.trans hk4))
    clear hk4 HCW
    go_wp2_with fail
    go_end0
    rw [HM0.out]
    exact ⟨rfl, HW4.out⟩

set_option maxHeartbeats 4000000 in
set_option maxRecDepth 100000 in
theorem pArgsW_any {N R k : Nat} {D : Nat → Prop} {xs : List ArgT} {v : Value} {s : Ws} (w : World) (h : Wv N R k s w) (hr : RowD ArgE 5 w D xs v) (hD : ∀ b, D b → b < N) (hlen : (argsW xs s).out.length ≤ 140737488355328) :
    Calls Tryz.prog 198 #[.pointer (some ⟨R, 0, none⟩), v] w (WAns N R k (argsW xs s) w) := by
  have HC := brArg_any argW w h hr hD (fun x _ s' cs W hv hb hE hl => pArgW_any W hv hE hD hl) (fun s0 x s' h => argW_k (mo_wr s0) x s' h) hlen
  obtain ⟨a, cap, rfl⟩ := hr.shape
  clear h hr hD hlen
  go_enter Tryz.func198, Tryz.ntmps198
  go_wp2_with fail
  refine HC.mono ?_
  rintro e w2 ⟨rfl, hk⟩
  have HK := Lib.hid hk
  clear hk HC
  go_wp2_with fail
  go_end0
  exact ⟨rfl, HK.out⟩

set_option maxHeartbeats 4000000 in
set_option maxRecDepth 100000 in
theorem pDirW_any {N R k : Nat} {D : Nat → Prop} {x : DirT} {cs : List Value} {s : Ws} (w : World) (h : Wv N R k s w) (hE : DirE w D x cs) (hD : ∀ b, D b → b < N) (hlen : (dirW x s).out.length ≤ 140737488355328) : Calls Tryz.prog 158 #[.pointer (some ⟨R, 0, none⟩), .agg cs.toArray] w (WAns N R k (dirW x s) w) := by
  obtain ⟨hz1, v, rfl, hR⟩ := hE
  obtain ⟨aa, ca, rfl⟩ := hR.shape
  have HW1 := Lib.hid ((Wk.refl h).alloc (.cells #[.string ⟨x.1.toArray⟩, .slice aa x.2.length ca] 67))
  have HB0 := Lib.hid (show (w.alloc (.cells #[.string ⟨x.1.toArray⟩, .slice aa x.2.length ca] 67)).heap[w.heap.size]? = some (.cells #[.string ⟨x.1.toArray⟩, .slice aa x.2.length ca] 67 (0, 0)) from heap_alloc_new _ _)
  have HM := Lib.hid (show dirW x s = argsW x.2 (wrs [[64], x.1] s) from rfl)
  have hlR := h.lt
  have hbR : w.heap.size ≠ R := by omega
  have hT := txTwo (v := ⟨#[64]⟩) (u := ⟨x.1.toArray⟩) HW1.out
  have HCW := write_any (l := [⟨#[64]⟩, ⟨x.1.toArray⟩]) (cap := 2) _ hT.1.1 hT.2 (show 2 ≤ 100 by decide) (Nat.le_refl _) (by
    have h1 := argsW_k (I := Mo (wrs [[64], x.1] s)) (mo_wr _) x.2 _ (Nat.le_refl _)
    exact Nat.le_trans h1 hlen)
  have HCW : Calls Tryz.prog 69 #[.pointer (some ⟨R, 0, none⟩), .slice (some ⟨(w.alloc (.cells #[.string ⟨x.1.toArray⟩, .slice aa x.2.length ca] 67)).heap.size, 0, none⟩) 2 2] _ _ := HCW
  have HT1 := Lib.hid hT.1
  clear hT
  rw [show (w.alloc (.cells #[.string ⟨x.1.toArray⟩, .slice aa x.2.length ca] 67)).heap.size = w.heap.size + 1 by simp] at HCW
  have HRD := Lib.hid hR
  have HDD := Lib.hid hD
  have HLEN := Lib.hid hlen
  clear h hR hD hlen
  generalize dirW x s = RES at *
  show Calls Tryz.prog 158 #[.pointer (some ⟨R, 0, none⟩), .agg #[.string ⟨x.1.toArray⟩, .slice aa x.2.length ca]] w _
  go_enter Tryz.func158, Tryz.ntmps158
  go_wp2_with fail
  refine HCW.mono ?_
  rintro e w2 ⟨rfl, hk2⟩
  have HW2 := Lib.hid (HW1.out.trans (HT1.out.trans hk2))
  have hbx := (HT1.out.trans hk2).box HB0.out (by decide) hbR
  have hbl : w.heap.size < w2.heap.size := (Array.getElem?_eq_some_iff.1 hbx).1
  have q0 : w2.cell? ⟨w.heap.size, 0, none⟩ = some (.string ⟨x.1.toArray⟩) := by rw [Lib.cell_of_heap hbx]; rfl
  have q1 : w2.cell? ⟨w.heap.size, 1, none⟩ = some (.slice aa x.2.length ca) := by rw [Lib.cell_of_heap hbx]; rfl
  have HC := pArgsW_any w2 HW2.out.1 (RowD.step argOk (fun _ h => h) (fun b o hb => World.cell?_of_block (a := ⟨b, o, none⟩) (HW2.out.2.1.block b (HDD.out b hb))) HRD.out) HDD.out (show (argsW x.2 (wrs [[64], x.1] s)).out.length ≤ _ by rw [← HM.out]; exact HLEN.out)
  clear hk2 HCW hbx
  go_wp2_with fail
  refine HC.mono ?_
  rintro e w3 ⟨rfl, hk3⟩
  have HW3 := Lib.hid (HW2.out.trans hk3)
  clear hk3 HC
  go_wp2_with fail
  go_end0
  rw [HM.out]
  exact ⟨rfl, HW3.out⟩

set_option maxHeartbeats 4000000 in
set_option maxRecDepth 100000 in
theorem pDirsW_any {N R k : Nat} {D : Nat → Prop} {xs : List DirT} {v : Value} {s : Ws} (w : World) (h : Wv N R k s w) (hr : RowD DirE 2 w D xs v) (hD : ∀ b, D b → b < N) (hlen : (dirsW xs s).out.length ≤ 140737488355328) :
    Calls Tryz.prog 111 #[.pointer (some ⟨R, 0, none⟩), v] w (WAns N R k (dirsW xs s) w) := by
  have HC := svDir_any dirW ⟨#[]⟩ w h hr hD (fun x _ s' cs W hv hb hE hl => pDirW_any W hv hE hD hl) (fun s0 x s' h => dirW_k (mo_wr s0) x s' h) hlen
  obtain ⟨a, cap, rfl⟩ := hr.shape
  clear h hr hD hlen
  go_enter Tryz.func111, Tryz.ntmps111
  go_wp2_with fail
  refine HC.mono ?_
  rintro e w2 ⟨rfl, hk⟩
  have HK := Lib.hid hk
  clear hk HC
  go_wp2_with fail
  go_end0
  exact ⟨rfl, HK.out⟩

end Go.Proofs.YtkfllppggjhhmaaGreatDoor
/-
  print's writer: parts of type api.Sel, one behind the other.
-/
namespace Go.Proofs.YtkfllppggjhhmaaGreatDoor
open Go.RowKit

set_option maxHeartbeats 8000000 in
set_option maxRecDepth 100000 in
theorem svSel_any {N R k : Nat} {D : Nat → Prop} {xs : List SelT} {v : Value} {n : Nat} {s : Ws} (P : SelT → Ws → Ws) (bt : ByteArray) (w : World) (h : Wv N R k s w) (hr : RowD (SelE n) 7 w D xs v) (hD : ∀ b, D b → b < N)
    (hF : ∀ x ∈ xs, ∀ s' cs W, Wv N R k s' W → Below N w W → (SelE n) W D x cs → (P x s').out.length ≤ 140737488355328 → Calls Tryz.prog 97 #[.pointer (some ⟨R, 0, none⟩), .agg cs.toArray] W (WAns N R k (P x s') W))
    (hM : ∀ s0 x s', Mo s0 s' → Mo s0 (P x s')) (hlen : (svW P (vbl bt) true xs s).out.length ≤ 140737488355328) :
    Calls Tryz.prog 96 #[.pointer (some ⟨R, 0, none⟩), .func (.func 97) #[.pointer (some ⟨R, 0, none⟩)] #[], .string bt, v] w (WAns N R k (svW P (vbl bt) true xs s) w) := by
  obtain ⟨a, cap, rfl, hx6, hcap, hrow⟩ := hr
  have HROW := Lib.hid hrow
  have HF := Lib.hid hF
  have HD := Lib.hid hD
  have HM := Lib.hid hM
  have HLEN := Lib.hid hlen
  have HH := Lib.hid h
  clear hrow hF hD hM hlen h
  go_enter Tryz.func96, Tryz.ntmps96
  go_wp2_with fail
  go_loopg [8, 9, 12] xs.length (fun j _ _ v12 wr => ∃ (i : Nat) (s' : Ws), v12 = .int .i64 (i : Int) ∧ i ≤ xs.length ∧ j = xs.length - i ∧ Hid (svW P (vbl bt) true xs s = svW P (vbl bt) (i == 0) (xs.drop i) s') ∧ Wk N R k s' w wr)
  case atStart => exact ⟨0, s, rfl, Nat.zero_le _, rfl, Lib.hid (by rw [List.drop_zero]; rfl), .refl HH.out⟩
  case round =>
    obtain ⟨i, s', rfl, hi, hj, HS, hk⟩ := hrel
    have HK := Lib.hid hk
    have hw : IntKind.i64.wrap ((i : Int) + 1) = (i : Int) + 1 := IntWalk.i64_in _ (by omega)
    obtain ⟨-, c3, -, -, hRl⟩ := hk.1.cells
    by_cases hlt : i < xs.length
    · have hd : decide ((i : Int) < (xs.length : Int)) = true := decide_eq_true (by omega)
      have hd2 : decide (i < xs.length) = true := decide_eq_true hlt
      obtain ⟨g, off, rfl, hDg, hel⟩ := HROW.out (by omega)
      have hx : xs[i]? = some xs[i] := List.getElem?_eq_getElem hlt
      have hmem := List.getElem_mem hlt
      obtain ⟨cs, hcl, hcs, hE⟩ := hel i _ hx
      have HS2 := Lib.hid (show svW P (vbl bt) true xs s = if s'.full then s' else svW P (vbl bt) false (xs.drop (i + 1)) (P xs[i] (if i == 0 then s' else wrT (vbl bt) s')) by rw [HS.out, List.drop_eq_getElem_cons hlt]; rfl)
      generalize xs[i] = x at *
      obtain ⟨n2, hn2⟩ : ∃ n2, n = n2 + 1 := by
        cases n with
        | zero => exact hE.elim
        | succ n2 => exact ⟨n2, rfl⟩
      rw [hn2] at hE
      obtain ⟨hz1, va, vd, vs, rfl, ha1, hd1, hs1⟩ := hE
      have hgl : g < wr.heap.size := by have := HD.out g hDg; have := hk.1.hN; omega
      have hce : ∀ o, wr.cell? ⟨g, o, none⟩ = w.cell? ⟨g, o, none⟩ := fun o => World.cell?_of_block (a := ⟨g, o, none⟩) (hk.2.1.block g (HD.out g hDg))
      obtain ⟨aa, ca, rfl⟩ := ha1.shape
      obtain ⟨ad, cd, rfl⟩ := hd1.shape
      obtain ⟨as7, cs7, rfl⟩ := hs1.shape
      have k0 : wr.cell? ⟨g, off + i * 7, none⟩ = some (.int .i64 (x.k : Int)) := (hce _).trans (hcs 0 _ rfl)
      have k1 : wr.cell? ⟨g, off + i * 7 + 1, none⟩ = some (.string ⟨x.al.toArray⟩) := (hce _).trans (hcs 1 _ rfl)
      have k2 : wr.cell? ⟨g, off + i * 7 + 2, none⟩ = some (.string ⟨x.nm.toArray⟩) := (hce _).trans (hcs 2 _ rfl)
      have k3 : wr.cell? ⟨g, off + i * 7 + 3, none⟩ = some (.string ⟨x.on_.toArray⟩) := (hce _).trans (hcs 3 _ rfl)
      have k4 : wr.cell? ⟨g, off + i * 7 + 4, none⟩ = some (.slice aa x.args.length ca) := (hce _).trans (hcs 4 _ rfl)
      have k5 : wr.cell? ⟨g, off + i * 7 + 5, none⟩ = some (.slice ad x.dirs.length cd) := (hce _).trans (hcs 5 _ rfl)
      have k6 : wr.cell? ⟨g, off + i * 7 + 6, none⟩ = some (.slice as7 x.sels.length cs7) := (hce _).trans (hcs 6 _ rfl)
      have hicp : i < cap := by omega
      have HE0 := Lib.hid (show (SelE n) w D x [.int .i64 (x.k : Int), .string ⟨x.al.toArray⟩, .string ⟨x.nm.toArray⟩, .string ⟨x.on_.toArray⟩, .slice aa x.args.length ca, .slice ad x.dirs.length cd, .slice as7 x.sels.length cs7] from (by rw [hn2]; exact ⟨hz1, _, _, _, rfl, ha1, hd1, hs1⟩))
      have HW1 := Lib.hid (hk.alloc (.cells #[.int .i64 (x.k : Int), .string ⟨x.al.toArray⟩, .string ⟨x.nm.toArray⟩, .string ⟨x.on_.toArray⟩, .slice aa x.args.length ca, .slice ad x.dirs.length cd, .slice as7 x.sels.length cs7] 49))
      have hbR : wr.heap.size ≠ R := by omega
      clear hk hel hcs hce hcl hx ha1 hd1 hs1
      cases hf : s'.full with
      | true =>
        rw [hf] at c3
        have HE := Lib.hid (show svW P (vbl bt) true xs s = s' by rw [HS2.out, if_pos hf])
        clear hf
        go_wp2_with fail
        refine bodyPost_ret (v := .tuple #[]) (results_none rfl _ _ _) rfl ?_
        rw [HE.out]
        exact ⟨rfl, HW1.out⟩
      | false =>
        rw [hf] at c3
        have HEQ := Lib.hid (show svW P (vbl bt) true xs s = svW P (vbl bt) false (xs.drop (i + 1)) (P x (if i == 0 then s' else wrT (vbl bt) s')) by rw [HS2.out, if_neg (by rw [hf]; decide)])
        clear hf
        have HL := Lib.hid (show (P x (if i == 0 then s' else wrT (vbl bt) s')).out.length ≤ 140737488355328 by
          have h1 := svW_k (I := Mo (P x (if i == 0 then s' else wrT (vbl bt) s'))) (mo_wr _) (fun x s' h => HM.out _ x s' h) (vbl bt) false (xs.drop (i + 1)) _ (Nat.le_refl _)
          unfold Mo at h1
          rw [← HEQ.out] at h1
          exact Nat.le_trans h1 HLEN.out)
        by_cases hz : i = 0
        · have hi0 : decide ((0 : Int) < (i : Int)) = false := decide_eq_false (by omega)
          have hi1 : decide (0 < i) = false := decide_eq_false (by omega)
          have hz' : (i == 0) = true := by simpa using hz
          rw [hz'] at HEQ HL
          simp only [reduceIte] at HEQ HL
          have hE' : (SelE n) (wr.alloc (.cells #[.int .i64 (x.k : Int), .string ⟨x.al.toArray⟩, .string ⟨x.nm.toArray⟩, .string ⟨x.on_.toArray⟩, .slice aa x.args.length ca, .slice ad x.dirs.length cd, .slice as7 x.sels.length cs7] 49)) D x [.int .i64 (x.k : Int), .string ⟨x.al.toArray⟩, .string ⟨x.nm.toArray⟩, .string ⟨x.on_.toArray⟩, .slice aa x.args.length ca, .slice ad x.dirs.length cd, .slice as7 x.sels.length cs7] := (selOk n).step (fun _ h => h) (fun b o hb' => World.cell?_of_block (a := ⟨b, o, none⟩) (HW1.out.2.1.block b (HD.out b hb'))) HE0.out
          have HCL : Calls Tryz.prog 97 #[.pointer (some ⟨R, 0, none⟩), .agg #[.int .i64 (x.k : Int), .string ⟨x.al.toArray⟩, .string ⟨x.nm.toArray⟩, .string ⟨x.on_.toArray⟩, .slice aa x.args.length ca, .slice ad x.dirs.length cd, .slice as7 x.sels.length cs7]] (wr.alloc (.cells #[.int .i64 (x.k : Int), .string ⟨x.al.toArray⟩, .string ⟨x.nm.toArray⟩, .string ⟨x.on_.toArray⟩, .slice aa x.args.length ca, .slice ad x.dirs.length cd, .slice as7 x.sels.length cs7] 49)) _ := HF.out x hmem s' [.int .i64 (x.k : Int), .string ⟨x.al.toArray⟩, .string ⟨x.nm.toArray⟩, .string ⟨x.on_.toArray⟩, .slice aa x.args.length ca, .slice ad x.dirs.length cd, .slice as7 x.sels.length cs7] _ HW1.out.1 HW1.out.2.1 hE' HL.out
          clear hE' hz hz' hmem
          go_wp2_with fail
          refine HCL.mono ?_
          rintro e w2 ⟨rfl, hk2⟩
          have HK2 := Lib.hid (HW1.out.trans hk2)
          clear hk2 HCL
          go_wp2_with fail
          go_roundg (xs.length - (i + 1))
          case measure => omega
          case rel => exact ⟨i + 1, _, by simp, by omega, rfl, HEQ, HK2.out⟩
        · have hi0 : decide ((0 : Int) < (i : Int)) = true := decide_eq_true (by omega)
          have hi1 : decide (0 < i) = true := decide_eq_true (by omega)
          have hz' : (i == 0) = false := by simpa using hz
          rw [hz'] at HEQ HL
          simp only [reduceIte, Bool.false_eq_true] at HEQ HL
          have hb0 : (wr.alloc (.cells #[.int .i64 (x.k : Int), .string ⟨x.al.toArray⟩, .string ⟨x.nm.toArray⟩, .string ⟨x.on_.toArray⟩, .slice aa x.args.length ca, .slice ad x.dirs.length cd, .slice as7 x.sels.length cs7] 49)).heap[wr.heap.size]? = some (.cells #[.int .i64 (x.k : Int), .string ⟨x.al.toArray⟩, .string ⟨x.nm.toArray⟩, .string ⟨x.on_.toArray⟩, .slice aa x.args.length ca, .slice ad x.dirs.length cd, .slice as7 x.sels.length cs7] 49 (0, 0)) := heap_alloc_new _ _
          have hT := txOne (v := bt) HW1.out
          have HCW := write_any (l := [bt]) (cap := 1) _ hT.1.1 hT.2 (show 1 ≤ 100 by decide) (Nat.le_refl _) (by
            have h1 := HM.out (wrT (vbl bt) s') x _ (Nat.le_refl _)
            exact Nat.le_trans h1 HL.out)
          have HCW : Calls Tryz.prog 69 #[.pointer (some ⟨R, 0, none⟩), .slice (some ⟨(wr.alloc (.cells #[.int .i64 (x.k : Int), .string ⟨x.al.toArray⟩, .string ⟨x.nm.toArray⟩, .string ⟨x.on_.toArray⟩, .slice aa x.args.length ca, .slice ad x.dirs.length cd, .slice as7 x.sels.length cs7] 49)).heap.size, 0, none⟩) 1 1] _ _ := HCW
          rw [show (wr.alloc (.cells #[.int .i64 (x.k : Int), .string ⟨x.al.toArray⟩, .string ⟨x.nm.toArray⟩, .string ⟨x.on_.toArray⟩, .slice aa x.args.length ca, .slice ad x.dirs.length cd, .slice as7 x.sels.length cs7] 49)).heap.size = wr.heap.size + 1 by simp] at HCW
          have HT1 := Lib.hid hT.1
          have HB0 := Lib.hid hb0
          clear hT hb0 hz hz'
          go_wp2_with fail
          refine HCW.mono ?_
          rintro e w2 ⟨rfl, hk2⟩
          have HW2 := Lib.hid (HW1.out.trans (HT1.out.trans hk2))
          have hbx := (HT1.out.trans hk2).box HB0.out (by decide) hbR
          have hbl : wr.heap.size < w2.heap.size := (Array.getElem?_eq_some_iff.1 hbx).1
          have q0 : w2.cell? ⟨wr.heap.size, 0, none⟩ = some (.int .i64 (x.k : Int)) := by rw [Lib.cell_of_heap hbx]; rfl
          have q1 : w2.cell? ⟨wr.heap.size, 1, none⟩ = some (.string ⟨x.al.toArray⟩) := by rw [Lib.cell_of_heap hbx]; rfl
          have q2 : w2.cell? ⟨wr.heap.size, 2, none⟩ = some (.string ⟨x.nm.toArray⟩) := by rw [Lib.cell_of_heap hbx]; rfl
          have q3 : w2.cell? ⟨wr.heap.size, 3, none⟩ = some (.string ⟨x.on_.toArray⟩) := by rw [Lib.cell_of_heap hbx]; rfl
          have q4 : w2.cell? ⟨wr.heap.size, 4, none⟩ = some (.slice aa x.args.length ca) := by rw [Lib.cell_of_heap hbx]; rfl
          have q5 : w2.cell? ⟨wr.heap.size, 5, none⟩ = some (.slice ad x.dirs.length cd) := by rw [Lib.cell_of_heap hbx]; rfl
          have q6 : w2.cell? ⟨wr.heap.size, 6, none⟩ = some (.slice as7 x.sels.length cs7) := by rw [Lib.cell_of_heap hbx]; rfl
          have hE' : (SelE n) w2 D x [.int .i64 (x.k : Int), .string ⟨x.al.toArray⟩, .string ⟨x.nm.toArray⟩, .string ⟨x.on_.toArray⟩, .slice aa x.args.length ca, .slice ad x.dirs.length cd, .slice as7 x.sels.length cs7] := (selOk n).step (fun _ h => h) (fun b o hb' => World.cell?_of_block (a := ⟨b, o, none⟩) (HW2.out.2.1.block b (HD.out b hb'))) HE0.out
          have HCL : Calls Tryz.prog 97 #[.pointer (some ⟨R, 0, none⟩), .agg #[.int .i64 (x.k : Int), .string ⟨x.al.toArray⟩, .string ⟨x.nm.toArray⟩, .string ⟨x.on_.toArray⟩, .slice aa x.args.length ca, .slice ad x.dirs.length cd, .slice as7 x.sels.length cs7]] w2 _ := HF.out x hmem _ [.int .i64 (x.k : Int), .string ⟨x.al.toArray⟩, .string ⟨x.nm.toArray⟩, .string ⟨x.on_.toArray⟩, .slice aa x.args.length ca, .slice ad x.dirs.length cd, .slice as7 x.sels.length cs7] w2 HW2.out.1 HW2.out.2.1 hE' HL.out
          clear hE' hmem hk2 HCW hbx HB0 HT1
          go_wp2_with fail
          refine HCL.mono ?_
          rintro e w3 ⟨rfl, hk3⟩
          have HK3 := Lib.hid (HW2.out.trans hk3)
          clear hk3 HCL
          go_wp2_with fail
          go_roundg (xs.length - (i + 1))
          case measure => omega
          case rel => exact ⟨i + 1, _, by simp, by omega, rfl, HEQ, HK3.out⟩
    · have hd : decide ((i : Int) < (xs.length : Int)) = false := decide_eq_false (by omega)
      have hd2 : decide (i < xs.length) = false := decide_eq_false hlt
      have HE := Lib.hid (show svW P (vbl bt) true xs s = s' by rw [HS.out, List.drop_of_length_le (by omega)]; rfl)
      clear hk
      go_wp2_with fail
      go_end0
      rw [HE.out]
      exact ⟨rfl, HK.out⟩

end Go.Proofs.YtkfllppggjhhmaaGreatDoor
