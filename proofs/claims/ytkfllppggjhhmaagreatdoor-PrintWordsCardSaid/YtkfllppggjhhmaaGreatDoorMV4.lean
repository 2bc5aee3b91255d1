/-
  print's writer: parts of type api.VarDef, one behind the other.
-/
import Derived.Test.YtkfllppggjhhmaaGreatDoorMV2
import Derived.Test.YtkfllppggjhhmaaGreatDoorMV9
namespace Go.Proofs.YtkfllppggjhhmaaGreatDoor
open Go.RowKit

set_option maxHeartbeats 8000000 in
set_option maxRecDepth 100000 in
theorem svVar_any {N R k : Nat} {D : Nat → Prop} {xs : List VarT} {v : Value} {s : Ws} (P : VarT → Ws → Ws) (bt : ByteArray) (w : World) (h : Wv N R k s w) (hr : RowD VarE 7 w D xs v) (hD : ∀ b, D b → b < N)
    (hF : ∀ x ∈ xs, ∀ s' cs W, Wv N R k s' W → Below N w W → VarE W D x cs → (P x s').out.length ≤ 140737488355328 → Calls Tryz.prog 110 #[.pointer (some ⟨R, 0, none⟩), .agg cs.toArray] W (WAns N R k (P x s') W))
    (hM : ∀ s0 x s', Mo s0 s' → Mo s0 (P x s')) (hlen : (svW P (vbl bt) true xs s).out.length ≤ 140737488355328) :
    Calls Tryz.prog 154 #[.pointer (some ⟨R, 0, none⟩), .func (.func 110) #[.pointer (some ⟨R, 0, none⟩)] #[], .string bt, v] w (WAns N R k (svW P (vbl bt) true xs s) w) := by
  obtain ⟨a, cap, rfl, hx6, hcap, hrow⟩ := hr
  have HROW := Lib.hid hrow
  have HF := Lib.hid hF
  have HD := Lib.hid hD
  have HM := Lib.hid hM
  have HLEN := Lib.hid hlen
  have HH := Lib.hid h
  clear hrow hF hD hM hlen h
  go_enter Tryz.func154, Tryz.ntmps154
  go_wp2_with fail
  go_loopg [8, 9, 12] xs.length (fun j _ _ v12 wr => ∃ (i : Nat) (s' : Ws), v12 = .int .i64 (i : Int) ∧ i ≤ xs.length ∧ j = xs.length - i ∧ Hid (svW P (vbl bt) true xs s = svW P (vbl bt) (i == 0) (xs.drop i) s') ∧ Wk N R k s' w wr)
  case atStart => exact ⟨0, s, rfl, Nat.zero_le _, rfl, Lib.hid (by rw [List.drop_zero]; rfl), .refl HH.out⟩
  case round =>
    obtain ⟨i, s', rfl, hi, hj, HS, hk⟩ := hrel
    have HK := Lib.hid hk
    have hw : IntKind.i64.wrap ((i : Int) + 1) = (i : Int) + 1 := IntWalk.i64_in _ (by omega)
    obtain ⟨-, c3, -, -, hRl⟩ := hk.1.cells
    by_cases hlt : i < xs.length
    · have hd : decide ((i : Int) < (xs.length : Int)) = true := decide_eq_true (by omega)
      have hd2 : decide (i < xs.length) = true := decide_eq_true hlt
      obtain ⟨g, off, rfl, hDg, hel⟩ := HROW.out (by omega)
      have hx : xs[i]? = some xs[i] := List.getElem?_eq_getElem hlt
      have hmem := List.getElem_mem hlt
      obtain ⟨cs, hcl, hcs, hE⟩ := hel i _ hx
      have HS2 := Lib.hid (show svW P (vbl bt) true xs s = if s'.full then s' else svW P (vbl bt) false (xs.drop (i + 1)) (P xs[i] (if i == 0 then s' else wrT (vbl bt) s')) by rw [HS.out, List.drop_eq_getElem_cons hlt]; rfl)
      generalize xs[i] = x at *
      obtain ⟨hz1, c0, c1, c2, c3, rfl, hE1⟩ := hE
      have hgl : g < wr.heap.size := by have := HD.out g hDg; have := hk.1.hN; omega
      have hce : ∀ o, wr.cell? ⟨g, o, none⟩ = w.cell? ⟨g, o, none⟩ := fun o => World.cell?_of_block (a := ⟨g, o, none⟩) (hk.2.1.block g (HD.out g hDg))
      obtain ⟨an, cn, ap, cp, hsh⟩ := hE1.shape
      obtain ⟨rfl, rfl, rfl, rfl⟩ := agg4_inj' hsh
      have k0 : wr.cell? ⟨g, off + i * 7, none⟩ = some (.string ⟨x.nm.toArray⟩) := (hce _).trans (hcs 0 _ rfl)
      have k1 : wr.cell? ⟨g, off + i * 7 + 1, none⟩ = some (.string ⟨x.ty.1.toArray⟩) := (hce _).trans (hcs 1 _ rfl)
      have k2 : wr.cell? ⟨g, off + i * 7 + 2, none⟩ = some (.string ⟨x.ty.2.toArray⟩) := (hce _).trans (hcs 2 _ rfl)
      have k3 : wr.cell? ⟨g, off + i * 7 + 3, none⟩ = some (.int .i64 x.dflt.k) := (hce _).trans (hcs 3 _ rfl)
      have k4 : wr.cell? ⟨g, off + i * 7 + 4, none⟩ = some (.string x.dflt.s) := (hce _).trans (hcs 4 _ rfl)
      have k5 : wr.cell? ⟨g, off + i * 7 + 5, none⟩ = some (.slice an x.dflt.ns.length cn) := (hce _).trans (hcs 5 _ rfl)
      have k6 : wr.cell? ⟨g, off + i * 7 + 6, none⟩ = some (.slice ap x.dflt.ps.length cp) := (hce _).trans (hcs 6 _ rfl)
      have hicp : i < cap := by omega
      have HE0 := Lib.hid (show VarE w D x [.string ⟨x.nm.toArray⟩, .string ⟨x.ty.1.toArray⟩, .string ⟨x.ty.2.toArray⟩, .int .i64 x.dflt.k, .string x.dflt.s, .slice an x.dflt.ns.length cn, .slice ap x.dflt.ps.length cp] from ⟨hz1, _, _, _, _, rfl, hE1⟩)
      have HW1 := Lib.hid (hk.alloc (.cells #[.string ⟨x.nm.toArray⟩, .string ⟨x.ty.1.toArray⟩, .string ⟨x.ty.2.toArray⟩, .int .i64 x.dflt.k, .string x.dflt.s, .slice an x.dflt.ns.length cn, .slice ap x.dflt.ps.length cp] 59))
      have hbR : wr.heap.size ≠ R := by omega
      clear hk hel hcs hce hcl hx hE1 hsh
      cases hf : s'.full with
      | true =>
        rw [hf] at c3
        have HE := Lib.hid (show svW P (vbl bt) true xs s = s' by rw [HS2.out, if_pos hf])
        clear hf
        go_wp2_with fail
        refine bodyPost_ret (v := .tuple #[]) (results_none rfl _ _ _) rfl ?_
        rw [HE.out]
        exact ⟨rfl, HW1.out⟩
      | false =>
        rw [hf] at c3
        have HEQ := Lib.hid (show svW P (vbl bt) true xs s = svW P (vbl bt) false (xs.drop (i + 1)) (P x (if i == 0 then s' else wrT (vbl bt) s')) by rw [HS2.out, if_neg (by rw [hf]; decide)])
        clear hf
        have HL := Lib.hid (show (P x (if i == 0 then s' else wrT (vbl bt) s')).out.length ≤ 140737488355328 by
          have h1 := svW_k (I := Mo (P x (if i == 0 then s' else wrT (vbl bt) s'))) (mo_wr _) (fun x s' h => HM.out _ x s' h) (vbl bt) false (xs.drop (i + 1)) _ (Nat.le_refl _)
          unfold Mo at h1
          rw [← HEQ.out] at h1
          exact Nat.le_trans h1 HLEN.out)
        by_cases hz : i = 0
        · have hi0 : decide ((0 : Int) < (i : Int)) = false := decide_eq_false (by omega)
          have hi1 : decide (0 < i) = false := decide_eq_false (by omega)
          have hz' : (i == 0) = true := by simpa using hz
          rw [hz'] at HEQ HL
          simp only [reduceIte] at HEQ HL
          have hE' : VarE (wr.alloc (.cells #[.string ⟨x.nm.toArray⟩, .string ⟨x.ty.1.toArray⟩, .string ⟨x.ty.2.toArray⟩, .int .i64 x.dflt.k, .string x.dflt.s, .slice an x.dflt.ns.length cn, .slice ap x.dflt.ps.length cp] 59)) D x [.string ⟨x.nm.toArray⟩, .string ⟨x.ty.1.toArray⟩, .string ⟨x.ty.2.toArray⟩, .int .i64 x.dflt.k, .string x.dflt.s, .slice an x.dflt.ns.length cn, .slice ap x.dflt.ps.length cp] := varOk.step (fun _ h => h) (fun b o hb' => World.cell?_of_block (a := ⟨b, o, none⟩) (HW1.out.2.1.block b (HD.out b hb'))) HE0.out
          have HCL : Calls Tryz.prog 110 #[.pointer (some ⟨R, 0, none⟩), .agg #[.string ⟨x.nm.toArray⟩, .string ⟨x.ty.1.toArray⟩, .string ⟨x.ty.2.toArray⟩, .int .i64 x.dflt.k, .string x.dflt.s, .slice an x.dflt.ns.length cn, .slice ap x.dflt.ps.length cp]] (wr.alloc (.cells #[.string ⟨x.nm.toArray⟩, .string ⟨x.ty.1.toArray⟩, .string ⟨x.ty.2.toArray⟩, .int .i64 x.dflt.k, .string x.dflt.s, .slice an x.dflt.ns.length cn, .slice ap x.dflt.ps.length cp] 59)) _ := HF.out x hmem s' [.string ⟨x.nm.toArray⟩, .string ⟨x.ty.1.toArray⟩, .string ⟨x.ty.2.toArray⟩, .int .i64 x.dflt.k, .string x.dflt.s, .slice an x.dflt.ns.length cn, .slice ap x.dflt.ps.length cp] _ HW1.out.1 HW1.out.2.1 hE' HL.out
          clear hE' hz hz' hmem
          go_wp2_with fail
          refine HCL.mono ?_
          rintro e w2 ⟨rfl, hk2⟩
          have HK2 := Lib.hid (HW1.out.trans hk2)
          clear hk2 HCL
          go_wp2_with fail
          go_roundg (xs.length - (i + 1))
          case measure => omega
          case rel => exact ⟨i + 1, _, by simp, by omega, rfl, HEQ, HK2.out⟩
        · have hi0 : decide ((0 : Int) < (i : Int)) = true := decide_eq_true (by omega)
          have hi1 : decide (0 < i) = true := decide_eq_true (by omega)
          have hz' : (i == 0) = false := by simpa using hz
          rw [hz'] at HEQ HL
          simp only [reduceIte, Bool.false_eq_true] at HEQ HL
          have hb0 : (wr.alloc (.cells #[.string ⟨x.nm.toArray⟩, .string ⟨x.ty.1.toArray⟩, .string ⟨x.ty.2.toArray⟩, .int .i64 x.dflt.k, .string x.dflt.s, .slice an x.dflt.ns.length cn, .slice ap x.dflt.ps.length cp] 59)).heap[wr.heap.size]? = some (.cells #[.string ⟨x.nm.toArray⟩, .string ⟨x.ty.1.toArray⟩, .string ⟨x.ty.2.toArray⟩, .int .i64 x.dflt.k, .string x.dflt.s, .slice an x.dflt.ns.length cn, .slice ap x.dflt.ps.length cp] 59 (0, 0)) := heap_alloc_new _ _
          have hT := txOne (v := bt) HW1.out
          have HCW := write_any (l := [bt]) (cap := 1) _ hT.1.1 hT.2 (show 1 ≤ 100 by decide) (Nat.le_refl _) (by
            have h1 := HM.out (wrT (vbl bt) s') x _ (Nat.le_refl _)
            exact Nat.le_trans h1 HL.out)
          have HCW : Calls Tryz.prog 69 #[.pointer (some ⟨R, 0, none⟩), .slice (some ⟨(wr.alloc (.cells #[.string ⟨x.nm.toArray⟩, .string ⟨x.ty.1.toArray⟩, .string ⟨x.ty.2.toArray⟩, .int .i64 x.dflt.k, .string x.dflt.s, .slice an x.dflt.ns.length cn, .slice ap x.dflt.ps.length cp] 59)).heap.size, 0, none⟩) 1 1] _ _ := HCW
          rw [show (wr.alloc (.cells #[.string ⟨x.nm.toArray⟩, .string ⟨x.ty.1.toArray⟩, .string ⟨x.ty.2.toArray⟩, .int .i64 x.dflt.k, .string x.dflt.s, .slice an x.dflt.ns.length cn, .slice ap x.dflt.ps.length cp] 59)).heap.size = wr.heap.size + 1 by simp] at HCW
          have HT1 := Lib.hid hT.1
          have HB0 := Lib.hid hb0
          clear hT hb0 hz hz'
          go_wp2_with fail
          refine HCW.mono ?_
          rintro e w2 ⟨rfl, hk2⟩
          have HW2 := Lib.hid (HW1.out.trans (HT1.out.trans hk2))
          have hbx := (HT1.out.trans hk2).box HB0.out (by decide) hbR
          have hbl : wr.heap.size < w2.heap.size := (Array.getElem?_eq_some_iff.1 hbx).1
          have q0 : w2.cell? ⟨wr.heap.size, 0, none⟩ = some (.string ⟨x.nm.toArray⟩) := by rw [Lib.cell_of_heap hbx]; rfl
          have q1 : w2.cell? ⟨wr.heap.size, 1, none⟩ = some (.string ⟨x.ty.1.toArray⟩) := by rw [Lib.cell_of_heap hbx]; rfl
          have q2 : w2.cell? ⟨wr.heap.size, 2, none⟩ = some (.string ⟨x.ty.2.toArray⟩) := by rw [Lib.cell_of_heap hbx]; rfl
          have q3 : w2.cell? ⟨wr.heap.size, 3, none⟩ = some (.int .i64 x.dflt.k) := by rw [Lib.cell_of_heap hbx]; rfl
          have q4 : w2.cell? ⟨wr.heap.size, 4, none⟩ = some (.string x.dflt.s) := by rw [Lib.cell_of_heap hbx]; rfl
          have q5 : w2.cell? ⟨wr.heap.size, 5, none⟩ = some (.slice an x.dflt.ns.length cn) := by rw [Lib.cell_of_heap hbx]; rfl
          have q6 : w2.cell? ⟨wr.heap.size, 6, none⟩ = some (.slice ap x.dflt.ps.length cp) := by rw [Lib.cell_of_heap hbx]; rfl
          have hE' : VarE w2 D x [.string ⟨x.nm.toArray⟩, .string ⟨x.ty.1.toArray⟩, .string ⟨x.ty.2.toArray⟩, .int .i64 x.dflt.k, .string x.dflt.s, .slice an x.dflt.ns.length cn, .slice ap x.dflt.ps.length cp] := varOk.step (fun _ h => h) (fun b o hb' => World.cell?_of_block (a := ⟨b, o, none⟩) (HW2.out.2.1.block b (HD.out b hb'))) HE0.out
          have HCL : Calls Tryz.prog 110 #[.pointer (some ⟨R, 0, none⟩), .agg #[.string ⟨x.nm.toArray⟩, .string ⟨x.ty.1.toArray⟩, .string ⟨x.ty.2.toArray⟩, .int .i64 x.dflt.k, .string x.dflt.s, .slice an x.dflt.ns.length cn, .slice ap x.dflt.ps.length cp]] w2 _ := HF.out x hmem _ [.string ⟨x.nm.toArray⟩, .string ⟨x.ty.1.toArray⟩, .string ⟨x.ty.2.toArray⟩, .int .i64 x.dflt.k, .string x.dflt.s, .slice an x.dflt.ns.length cn, .slice ap x.dflt.ps.length cp] w2 HW2.out.1 HW2.out.2.1 hE' HL.out
          clear hE' hmem hk2 HCW hbx HB0 HT1
          go_wp2_with fail
          refine HCL.mono ?_
          rintro e w3 ⟨rfl, hk3⟩
          have HK3 := Lib.hid (HW2.out.trans hk3)
          clear hk3 HCL
          go_wp2_with fail
          go_roundg (xs.length - (i + 1))
          case measure => omega
          case rel => exact ⟨i + 1, _, by simp, by omega, rfl, HEQ, HK3.out⟩
    · have hd : decide ((i : Int) < (xs.length : Int)) = false := decide_eq_false (by omega)
      have hd2 : decide (i < xs.length) = false := decide_eq_false hlt
      have HE := Lib.hid (show svW P (vbl bt) true xs s = s' by rw [HS.out, List.drop_of_length_le (by omega)]; rfl)
      clear hk
      go_wp2_with fail
      go_end0
      rw [HE.out]
      exact ⟨rfl, HK.out⟩

end Go.Proofs.YtkfllppggjhhmaaGreatDoor
/-
  value's reader: what list answers.
-/
namespace Go.Proofs.YtkfllppggjhhmaaGreatDoor
open Go.RowKit

/-- The contract of value that list and object are given. -/
def ValOkV (R : Nat) (a : Option Addr) (cap : Nat) (ts : List Tk) (f dep : Nat) : Prop :=
  ∀ (p : Nat) (W : World), Rv W R a cap ts p → Calls Tryz.prog 325 #[.pointer (some ⟨R, 0, none⟩), .int .i64 dep] W (VIsV R a cap ts (f + 1) W (pvT f (ahead ts p)))

/-- One more of the list is to be read; what comes of it all is RES. -/
def LRelV (w : World) (R : Nat) (a : Option Addr) (cap : Nat) (ts : List Tk) (f : Nat) (V : List Sk → VR) (RES : VR) (k : Nat) (wr : World) : Prop :=
  ∃ (j : Nat) (xs : List JV) (cs : List Value) (vN vL : Value) (q : Nat), j = k ∧ (ahead ts q).length < j ∧ xs.length + (ahead ts q).length ≤ 9000 ∧ Rv wr R a cap ts q ∧ JSt w R R 7 (f + 1) [] xs cs vN vL wr ∧ vListGo V j (ahead ts q) xs = RES

theorem list_armG {w W w3 : World} {R M : Nat} {kk : Int} {f : Nat} {ns : List ByteArray} {xs : List JV} {cs : List Value} {vN vL : Value} (h : JSt w R M kk f ns xs cs vN vL W) (hR : R < w.heap.size) (hM : M < W.heap.size) (ha : Aw R W.heap.size W w3) {x : JV} {c0 c1 c2 c3 : Value}
    (hx : RdD w3 (fun b => W.heap.size ≤ b ∧ b < w3.heap.size) f x (.agg #[c0, c1, c2, c3])) : w3.cell? ⟨w.heap.size + 1, 3, none⟩ = some vL ∧ w3.cell? ⟨w.heap.size + 1, 2, none⟩ = some vN ∧ (∀ j, w3.frozen? ⟨w.heap.size + 1, j, none⟩ = false) ∧ ∀ W', Below w3.heap.size w3 W' → JSt w R M kk f ns xs cs vN vL W' ∧ RdD W' (JD w M W' vN vL) f x (.agg #[c0, c1, c2, c3]) := by
  have h3 := h.grow hR (Aw2.ofAw ha M)
  refine ⟨h3.b3, h3.b2, h3.bf, fun W' hb => ?_⟩
  have h4 := h3.grow hR (Aw2.ofAw (Aw.of hb) M)
  have hz := hb.size
  refine ⟨h4, RdD.step (fun b hd => ⟨Nat.le_trans h.sz hd.1, by omega, fun e => ?_, fun e => ?_, fun e => ?_⟩) (fun b o hd => World.cell?_of_block (a := ⟨b, o, none⟩) (hb.block b hd.2)) hx⟩
  · have := (h.oN.lt b e).2; omega
  · have := (h.oL.lt b e).2; omega
  · omega

theorem new_second (w : World) (o : Obj) (c0 c1 c2 c3 : Value) (T : TypeId) : ∀ j u, [c0, c1, c2, c3][j]? = some u → ((w.alloc o).alloc (.cells #[c0, c1, c2, c3] T)).cell? ((⟨w.heap.size + 1, 0, none⟩ : Addr).add j) = some u := by
  have := cell_four_new (w.alloc o) c0 c1 c2 c3 T
  rw [show (w.alloc o).heap.size = w.heap.size + 1 from by simp] at this
  exact this

/-- The list is at its end. -/
theorem list_end {w W : World} {R : Nat} {a : Option Addr} {cap : Nat} {ts : List Tk} {p0 : Nat} (h0 : Rv w R a cap ts p0) {kk : Int} {f : Nat} {ns : List ByteArray} {xs : List JV} {cs : List Value} {vN vL : Value} (hst : JSt w R R kk f ns xs cs vN vL W) {q : Nat} {l : List Sk} (hl : ahead ts q = l) (hr : Rv W R a cap ts q) (hx : xs.length ≤ 1000000) (hn : ns.length ≤ 1000000) (hz : ∀ m ∈ ns, m.size ≤ 1000000) :
    VIsV R a cap ts (f + 1) w (.mk kk ⟨#[]⟩ ns xs, l, 0) (.returned (.tuple #[.agg #[.int .i64 kk, .string ⟨#[]⟩, vN, vL], .int .i64 0])) ((((W.setCell ⟨w.heap.size, 0, none⟩ (.int .i64 kk)).setCell ⟨w.heap.size, 1, none⟩ (.string ⟨#[]⟩)).setCell ⟨w.heap.size, 2, none⟩ vN).setCell ⟨w.heap.size, 3, none⟩ vL) := by
  refine ⟨NowV.four h0 hl hr hst.aw _ _ _ _, ?_⟩
  rw [if_pos rfl]
  exact ⟨_, rfl, hst.doneB hx hn hz _ (fun b o hb => World.cell?_of_block (a := ⟨b, o, none⟩) (heap_four _ _ _ _ _ _ _ hb)) (size_four _ _ _ _ _ _)⟩

/-- It is none. -/
theorem list_none {w W : World} {R : Nat} {a : Option Addr} {cap : Nat} {ts : List Tk} {p0 : Nat} (h0 : Rv w R a cap ts p0) (n : Nat) {q : Nat} {l : List Sk} (hl : ahead ts q = l) (hr : Rv W R a cap ts q) (ha : Aw R w.heap.size w W) {er : Nat} (he : er ≠ 0) (h4 : er ≤ 4) (x : JV) (c0 c1 c2 c3 : Value) :
    VIsV R a cap ts n w (x, l, er) (.returned (.tuple #[leaf 0 ⟨#[]⟩, .int .i64 er])) ((((W.setCell ⟨w.heap.size, 0, none⟩ c0).setCell ⟨w.heap.size, 1, none⟩ c1).setCell ⟨w.heap.size, 2, none⟩ c2).setCell ⟨w.heap.size, 3, none⟩ c3) := by
  refine ⟨NowV.four h0 hl hr ha _ _ _ _, ?_⟩
  rw [if_neg he]
  exact ⟨rfl, h4⟩

theorem bx_four {W : World} {B : Nat} (h : Bx W B) (c0 c1 c2 c3 : Value) : ((((W.setCell ⟨B, 0, none⟩ c0).setCell ⟨B, 1, none⟩ c1).setCell ⟨B, 2, none⟩ c2).setCell ⟨B, 3, none⟩ c3).cell? ⟨B, 0, none⟩ = some c0 ∧ ((((W.setCell ⟨B, 0, none⟩ c0).setCell ⟨B, 1, none⟩ c1).setCell ⟨B, 2, none⟩ c2).setCell ⟨B, 3, none⟩ c3).cell? ⟨B, 1, none⟩ = some c1 ∧
    ((((W.setCell ⟨B, 0, none⟩ c0).setCell ⟨B, 1, none⟩ c1).setCell ⟨B, 2, none⟩ c2).setCell ⟨B, 3, none⟩ c3).cell? ⟨B, 2, none⟩ = some c2 ∧ ((((W.setCell ⟨B, 0, none⟩ c0).setCell ⟨B, 1, none⟩ c1).setCell ⟨B, 2, none⟩ c2).setCell ⟨B, 3, none⟩ c3).cell? ⟨B, 3, none⟩ = some c3 := by
  obtain ⟨r0, r1, r2, r3, _⟩ := h
  refine ⟨?_, ?_, ?_, ?_⟩ <;> simp [go_sem, r0, r1, r2, r3]
theorem bx_fourA {W : World} {B : Nat} (h : Bx W B) (c0 c1 c2 c3 : Value) (o : Obj) : (((((W.setCell ⟨B, 0, none⟩ c0).setCell ⟨B, 1, none⟩ c1).setCell ⟨B, 2, none⟩ c2).setCell ⟨B, 3, none⟩ c3).alloc o).cell? ⟨B, 0, none⟩ = some c0 ∧ (((((W.setCell ⟨B, 0, none⟩ c0).setCell ⟨B, 1, none⟩ c1).setCell ⟨B, 2, none⟩ c2).setCell ⟨B, 3, none⟩ c3).alloc o).cell? ⟨B, 1, none⟩ = some c1 ∧
    (((((W.setCell ⟨B, 0, none⟩ c0).setCell ⟨B, 1, none⟩ c1).setCell ⟨B, 2, none⟩ c2).setCell ⟨B, 3, none⟩ c3).alloc o).cell? ⟨B, 2, none⟩ = some c2 ∧ (((((W.setCell ⟨B, 0, none⟩ c0).setCell ⟨B, 1, none⟩ c1).setCell ⟨B, 2, none⟩ c2).setCell ⟨B, 3, none⟩ c3).alloc o).cell? ⟨B, 3, none⟩ = some c3 := by
  have hlt := h.lt
  obtain ⟨k0, k1, k2, k3⟩ := bx_four h c0 c1 c2 c3
  have c : ∀ j, (((((W.setCell ⟨B, 0, none⟩ c0).setCell ⟨B, 1, none⟩ c1).setCell ⟨B, 2, none⟩ c2).setCell ⟨B, 3, none⟩ c3).alloc o).cell? ⟨B, j, none⟩ = ((((W.setCell ⟨B, 0, none⟩ c0).setCell ⟨B, 1, none⟩ c1).setCell ⟨B, 2, none⟩ c2).setCell ⟨B, 3, none⟩ c3).cell? ⟨B, j, none⟩ := fun j => World.cell?_of_block (a := ⟨B, j, none⟩) (Below.heap_alloc _ _ _ (by rw [size_four]; exact hlt))
  exact ⟨(c 0).trans k0, (c 1).trans k1, (c 2).trans k2, (c 3).trans k3⟩
theorem NowV.alloc {R : Nat} {a : Option Addr} {cap : Nat} {ts : List Tk} {w W : World} {l : List Sk} (h : NowV R a cap ts w l W) (o : Obj) : NowV R a cap ts w l (W.alloc o) := by
  obtain ⟨p, hl, hr, ha⟩ := h
  exact ⟨p, hl, hr.alloc o, ha.alloc ha.size o⟩
theorem list_noneA {w W : World} {R : Nat} {a : Option Addr} {cap : Nat} {ts : List Tk} {p0 : Nat} (h0 : Rv w R a cap ts p0) (n : Nat) {q : Nat} {l : List Sk} (hl : ahead ts q = l) (hr : Rv W R a cap ts q) (ha : Aw R w.heap.size w W) {er : Nat} (he : er ≠ 0) (h4 : er ≤ 4) (x : JV) (c0 c1 c2 c3 : Value) (o : Obj) :
    VIsV R a cap ts n w (x, l, er) (.returned (.tuple #[leaf 0 ⟨#[]⟩, .int .i64 er])) (((((W.setCell ⟨w.heap.size, 0, none⟩ c0).setCell ⟨w.heap.size, 1, none⟩ c1).setCell ⟨w.heap.size, 2, none⟩ c2).setCell ⟨w.heap.size, 3, none⟩ c3).alloc o) := by
  refine ⟨(NowV.four h0 hl hr ha _ _ _ _).alloc o, ?_⟩
  rw [if_neg he]
  exact ⟨rfl, h4⟩

set_option maxHeartbeats 4000000 in
set_option maxRecDepth 100000 in
theorem vlist_any {R : Nat} {a : Option Addr} {cap : Nat} {ts : List Tk} {p : Nat} (f dep n : Nat) (w : World) (h : Rv w R a cap ts p) (hdep : dep ≤ 12) (hn : (ahead ts p).length < n) (ih : ValOkV R a cap ts f (dep + 1)) :
    Calls Tryz.prog 331 #[.pointer (some ⟨R, 0, none⟩), .int .i64 dep] w (VIsV R a cap ts (f + 2) w (vListGo (pvT f) n (ahead ts p) [])) := by
  obtain ⟨i2, hi2, hz20, hz21, hz22⟩ := info_parts infoVal
  have HI := Lib.hid ih
  have HH := Lib.hid h
  have hRlt := h.lt
  have hts := h.hs
  have hl9 : (ahead ts p).length ≤ 9000 := by rw [ahead_len]; omega
  clear ih
  have HR0 := Lib.hid ((h.alloc (.cells #[.int .i64 0, .string ⟨#[]⟩, .slice none 0 0, .slice none 0 0] 53)).alloc (.cells #[.int .i64 7, .string ⟨#[]⟩, .slice none 0 0, .slice none 0 0] 53))
  have HS0 := Lib.hid (jst_init w _ R R 7 (f + 1) hRlt (.inl rfl) (Aw.refl R (w.heap.size + 2) ((w.alloc (.cells #[.int .i64 0, .string ⟨#[]⟩, .slice none 0 0, .slice none 0 0] 53)).alloc (.cells #[.int .i64 7, .string ⟨#[]⟩, .slice none 0 0, .slice none 0 0] 53))))
  clear h
  go_enter Tryz.func331, Tryz.ntmps331
  go_wp2_with fail
  go_loopg [7, 8] n (fun k _ _ wr => LRelV w R a cap ts f (pvT f) (vListGo (pvT f) n (ahead ts p) []) k wr)
  case atStart => exact ⟨n, [], [], _, _, p, rfl, hn, by simpa using hl9, HR0.out, HS0.out, rfl⟩
  case round =>
    obtain ⟨j, xs, cs, vN, vL, q, rfl, hj, hxl, hr, hst, hres⟩ := hrel
    generalize vListGo (pvT f) n (ahead ts p) [] = RES at *
    clear HR0 HS0 hn hl9
    obtain ⟨k, rfl⟩ : ∃ k', j = k' + 1 := ⟨j - 1, by omega⟩
    have HRES := Lib.hid hres
    have HR := Lib.hid hr
    have hRr := hr.lt
    have HST := Lib.hid hst
    clear hres
    by_cases h93 : sg (hdK (ahead ts q)) 93 = true
    · have HT := takeSign_yes 93 wr hr h93
      have HU := Lib.hid (show RES = (.mk 7 ⟨#[]⟩ [] xs, (ahead ts q).tail, 0) by rw [← HRES.out]; unfold vListGo; rw [if_pos h93])
      clear h93 hr hst
      go_wp2_with fail
      refine HT.mono ?_
      rintro e w2 ⟨rfl, q2, hl2, hr2, ha2⟩
      have hst2 := HST.out.grow hRlt (Aw2.ofAw ha2 R)
      have HST2 := Lib.hid hst2
      have HL2 := Lib.hid hl2
      have hcl := hst2.oL
      obtain ⟨aL, cL, rfl, _, _⟩ := fresh_row hst2.oL
      obtain ⟨aN, cN, rfl, _, _⟩ := fresh_row hst2.oN
      obtain ⟨_, hsz, b0, b1, b2, b3, bf, ⟨r0, r1, r2, r3, rf⟩, _⟩ := hst2
      clear hl2 hcl
      go_wp2_with fail
      refine bodyPost_ret (v := .tuple #[.agg #[.int .i64 7, .string ⟨#[]⟩, .slice aN 0 cN, .slice aL xs.length cL], .int .i64 0]) (by simp [results, Tryz.results331, go_sem, r0, r1, r2, r3]) rfl ?_
      rw [HU.out]
      exact list_end HH.out HST2.out HL2.out hr2 (by omega) (by simp) (by simp)
    · have h93 : sg (hdK (ahead ts q)) 93 = false := by simpa using h93
      have HT := takeSign_no 93 wr hr h93
      have HV := Lib.hid (show RES = if (pvT f (ahead ts q)).2.2 = 0 then vListGo (pvT f) k (pvT f (ahead ts q)).2.1 (xs ++ [(pvT f (ahead ts q)).1]) else (vz, (pvT f (ahead ts q)).2.1, (pvT f (ahead ts q)).2.2) by rw [← HRES.out, vListGo, if_neg (by rw [h93]; decide)])
      have hless := pvT_less f (ahead ts q)
      have hC := HI.out q
      generalize pvT f (ahead ts q) = RV at *
      obtain ⟨x, l', er⟩ := RV
      have hwrap : IntKind.i64.wrap ((dep : Int) + 1) = (dep : Int) + 1 := IntWalk.i64_in _ (by omega)
      rw [show ((dep + 1 : Nat) : Int) = (dep : Int) + 1 by omega] at hC
      have HC := Lib.hid hC
      clear h93 hr hst hC HI
      go_wp2_with fail
      refine HT.mono ?_
      rintro e w2 ⟨rfl, hb2⟩
      have hr2 := HR.out.below hb2
      have hst2 := HST.out.grow hRlt (Aw2.ofAw (Aw.of hb2) R)
      have HC2 := HC.out w2 hr2
      have HST2 := Lib.hid hst2
      have hRr2 := hr2.lt
      clear hr2 HC hst2 hb2
      go_wp2_with fail
      refine HC2.mono ?_
      rintro e w3 ⟨⟨q3, hl3, hr3, ha3⟩, hv⟩
      dsimp only at hl3 hv hless HV
      by_cases he : er = 0
      · subst he
        rw [if_pos rfl] at hv
        obtain ⟨v, rfl, hR⟩ := hv
        obtain ⟨an, cn, ap, cp, rfl⟩ := hR.shape
        have HN := Lib.hid (show RES = vListGo (pvT f) k l' (xs ++ [x]) by rw [HV.out, if_pos rfl])
        have hlt := hless rfl
        obtain ⟨b33, _, bf3, hW⟩ := list_armG HST2.out hRlt hRr2 ha3 hR
        have hlt3 : w.heap.size + 1 < w3.heap.size := by have h1 := ha3.size; have := HST2.out.sz; omega
        obtain ⟨aL, cL, rfl, hcL, _⟩ := fresh_row HST2.out.oL
        obtain ⟨aN, cN, rfl, hcN, _⟩ := fresh_row HST2.out.oN
        have hb5 : Below w3.heap.size w3 ((w3.alloc (.cells #[.int .i64 x.k, .string x.s, .slice an x.ns.length cn, .slice ap x.ps.length cp] 53)).alloc (.cells #[.int .i64 x.k, .string x.s, .slice an x.ns.length cn, .slice ap x.ps.length cp] 53)) := ((Below.refl _ w3).alloc (Nat.le_refl _) _).alloc (by simp) _
        obtain ⟨hA, hX⟩ := hW _ hb5
        have HA := Lib.hid hA
        have HX := Lib.hid hX
        have HC4 := Lib.hid (new_second w3 (.cells #[.int .i64 x.k, .string x.s, .slice an x.ns.length cn, .slice ap x.ps.length cp] 53) (.int .i64 x.k) (.string x.s) (.slice an x.ns.length cn) (.slice ap x.ps.length cp) 53)
        have HO4 := Lib.hid (four_one x.k x.s an x.ns.length cn ap x.ps.length cp)
        have HZ4 := Lib.hid hA.sz
        have HS4 : Hid (((w3.alloc (.cells #[.int .i64 x.k, .string x.s, .slice an x.ns.length cn, .slice ap x.ps.length cp] 53)).alloc (.cells #[.int .i64 x.k, .string x.s, .slice an x.ns.length cn, .slice ap x.ps.length cp] 53)).heap.size = w3.heap.size + 2) := Lib.hid (by simp)
        have HL3 := Lib.hid hl3
        have HR3 := Lib.hid (hr3.below hb5)
        clear hl3 hr3 ha3 hR hW hA hX hb5 HV HC2
        go_wp2_with (at_builtin; refine wpList_append_lies _ rfl _ _ 51 rfl (w.heap.size + 2) 53 i2 (.agg #[.int .i64 0, .string ⟨#[]⟩, .slice none 0 0, .slice none 0 0]) 4 72 Tryz.underlying51 hi2 hz20 hz21 hz22 rfl (by decide) (.slice aL xs.length cL) xs.length cs rfl HA.out.oL ⟨w3.heap.size + 1, 0, none⟩ 1 1 [.int .i64 x.k, .string x.s, .slice an x.ns.length cn, .slice ap x.ps.length cp] rfl rfl HC4.out HO4.out (by decide) (by unfold maxLen; omega) (by omega) HZ4.out (w3.heap.size + 2) HS4.out ?_)
        intro g8 cap8 w8 hown8 hg8 hlie8 hl8
        obtain ⟨c8, f8⟩ := HA.out.boxL hg8
        have e8 := (c8 3).trans HA.out.b3
        have hm8 := HA.out.list HX.out hown8 hg8 (by
          rcases hlie8 with e | e
          · exact .inl e.symm
          · exact .inr (by rw [HS4.out, e]; rfl)) (by rw [HS4.out]; omega)
        have hr8 : Rv (w8.setCell ⟨w.heap.size + 1, 3, none⟩ (.slice (some ⟨g8, 0, none⟩) (xs.length + 1) cap8)) R a cap ts q3 := by
          have hgo : ∀ b, b < w.heap.size → w8.heap[b]? = ((w3.alloc (.cells #[.int .i64 x.k, .string x.s, .slice an x.ns.length cn, .slice ap x.ps.length cp] 53)).alloc (.cells #[.int .i64 x.k, .string x.s, .slice an x.ns.length cn, .slice ap x.ps.length cp] 53)).heap[b]? := fun b hb => hg8.block b (by rw [HS4.out]; omega) (fun e => by
            have := (HA.out.oL.lt b (by first | exact e | exact e.symm)).1
            omega)
          refine HR3.out.keepT ?_ (fun g e h0 => ?_)
          · rw [Below.heap_setCell _ _ _ _ (show R ≠ w.heap.size + 1 by omega)]
            exact hgo R hRlt
          · have hg := HH.out.tokLt g e h0
            rw [Below.heap_setCell _ _ _ _ (show g ≠ w.heap.size + 1 by omega)]
            exact hgo g hg
        have HM8 := Lib.hid hm8
        have HR8 := Lib.hid hr8
        clear hm8 hr8 c8 hg8 hown8 hlie8 HC4 HO4 HZ4 HS4 HX HA
        go_wp2_with fail
        go_roundg k
        case measure => omega
        case rel => exact ⟨k, xs ++ [x], _, _, _, q3, rfl, by rw [HL3.out]; omega, by rw [HL3.out, List.length_append, List.length_singleton]; omega, HR8.out, HM8.out, by rw [HL3.out]; exact HN.out.symm⟩
      · rw [if_neg he] at hv
        obtain ⟨rfl, h4⟩ := hv
        have HN := Lib.hid (show RES = (vz, l', er) by rw [HV.out, if_neg he])
        have hst3 := HST2.out.grow hRlt (Aw2.ofAw ha3 R)
        have hne : ((er : Int) == 0) = false := by rw [beq_eq_false_iff_ne]; omega
        have HL3 := Lib.hid hl3
        have HE := Lib.hid he
        have HR3 := Lib.hid hr3
        have HA3 := Lib.hid hst3.aw
        have hlt3 : w.heap.size < w3.heap.size := by have := hst3.sz; omega
        have HF := Lib.hid (fun o => bx_fourA hst3.bx (.int .i64 0) (.string ⟨#[]⟩) (.slice none 0 0) (.slice none 0 0) o)
        obtain ⟨r0, r1, r2, r3, rf⟩ := hst3.bx
        clear hl3 hr3 ha3 HV HC2 hst3 he
        unfold leaf
        go_wp2_with fail
        obtain ⟨k0, k1, k2, k3⟩ := HF.out (.cells #[.int .i64 0, .string ⟨#[]⟩, .slice none 0 0, .slice none 0 0] 53)
        refine bodyPost_ret (v := .tuple #[leaf 0 ⟨#[]⟩, .int .i64 er]) (by simp [results, Tryz.results331, go_sem, k0, k1, k2, k3, leaf]) rfl ?_
        rw [HN.out]
        exact list_noneA HH.out _ HL3.out HR3.out HA3.out HE.out h4 _ _ _ _ _ _

end Go.Proofs.YtkfllppggjhhmaaGreatDoor
