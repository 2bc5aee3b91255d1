/-
  print's writer in memory.
-/
import Derived.Test.YtkfllppggjhhmaaGreatDoorMPm2
import Derived.Test.YtkfllppggjhhmaaGreatDoorMSmall
import Derived.Test.YtkfllppggjhhmaaGreatDoorMPm
import Derived.Deep.LoopGhost
import Derived.Test.YtkfllppggjhhmaaGreatDoorMText
import Derived.Test.YtkfllppggjhhmaaGreatDoorMAw
namespace Go.Proofs.YtkfllppggjhhmaaGreatDoor
open Go.RowKit

theorem Fit.writer : Fit 83 5 := ⟨by kernel_rfl, by decide⟩

/-- The writer lies in block R, with k sets open, in state s; blocks below N are older. -/
structure Wv (N R k : Nat) (s : Ws) (w : World) : Prop where
  bld : Bld 83 N R [.int .i64 (s.room : Int), .bool s.full, .int .i64 (k : Int)] (Lib.byteCells s.out) w
  hN : N ≤ w.heap.size
  rm : s.room ≤ 9223372036854775807
  hk : k ≤ 65536
  mx : 0 < N ∧ ∃ m, w.cell? ⟨0, 0, none⟩ = some (.int .i64 m)
theorem mx_below {N : Nat} {w w' : World} (h : 0 < N ∧ ∃ m, w.cell? ⟨0, 0, none⟩ = some (.int .i64 m)) (hb : Below N w w') : 0 < N ∧ ∃ m, w'.cell? ⟨0, 0, none⟩ = some (.int .i64 m) := by
  obtain ⟨h0, m, hm⟩ := h
  exact ⟨h0, m, (hb.cell (p := ⟨0, 0, none⟩) h0).trans hm⟩
theorem mx_set {N R j : Nat} {w : World} {v : Value} (h : 0 < N ∧ ∃ m, w.cell? ⟨0, 0, none⟩ = some (.int .i64 m)) (hR : N ≤ R) : 0 < N ∧ ∃ m, (w.setCell ⟨R, j, none⟩ v).cell? ⟨0, 0, none⟩ = some (.int .i64 m) := mx_below h ((Below.refl _ _).setCell (p := ⟨R, j, none⟩) hR v)
/-- What a call leaves: the writer in state s; nothing older than it has changed, no block but the writer's own. -/
def Wk (N R k : Nat) (s : Ws) (w w' : World) : Prop := Wv N R k s w' ∧ Below N w w' ∧ Lib.OthersKept 5 (some R) w w'
def WAns (N R k : Nat) (s : Ws) (w : World) (e : Ending) (w' : World) : Prop := e = .returned (.tuple #[]) ∧ Wk N R k s w w'

theorem Wv.lt {N R k : Nat} {s : Ws} {w : World} (h : Wv N R k s w) : R < w.heap.size := h.bld.lt
theorem Wv.ge {N R k : Nat} {s : Ws} {w : World} (h : Wv N R k s w) : N ≤ R := h.bld.elim (fun x => x.1) (fun x => x.1)
theorem Wv.below {N R k : Nat} {s : Ws} {w w' : World} (h : Wv N R k s w) (hb : Below w.heap.size w w') : Wv N R k s w' := ⟨h.bld.below hb, Nat.le_trans h.hN hb.size, h.rm, h.hk, mx_below h.mx (hb.mono h.hN)⟩
theorem Wv.alloc {N R k : Nat} {s : Ws} {w : World} (h : Wv N R k s w) (o : Obj) : Wv N R k s (w.alloc o) := h.below ((Below.refl _ w).alloc (Nat.le_refl _) o)
theorem Wk.refl {N R k : Nat} {s : Ws} {w : World} (h : Wv N R k s w) : Wk N R k s w w := ⟨h, Below.refl _ _, Lib.OthersKept.refl _ _ _⟩
theorem Wk.trans {N R k k' : Nat} {s s' : Ws} {w a b : World} (h : Wk N R k s w a) (g : Wk N R k' s' a b) : Wk N R k' s' w b := ⟨g.1, h.2.1.trans g.2.1, h.2.2.trans g.2.2⟩
theorem Wk.of {N R k : Nat} {s : Ws} {w w' : World} (h : Wv N R k s w) (hb : Below w.heap.size w w') : Wk N R k s w w' := ⟨h.below hb, hb.mono h.hN, kept_below hb⟩
theorem Wk.below {N R k : Nat} {s : Ws} {w a b : World} (h : Wk N R k s w a) (hb : Below a.heap.size a b) : Wk N R k s w b := h.trans (.of h.1 hb)
theorem Wk.alloc {N R k : Nat} {s : Ws} {w a : World} (h : Wk N R k s w a) (o : Obj) : Wk N R k s w (a.alloc o) := h.below ((Below.refl _ a).alloc (Nat.le_refl _) o)
theorem Wk.size {N R k : Nat} {s : Ws} {w a : World} (h : Wk N R k s w a) : w.heap.size ≤ a.heap.size := h.2.1.size
/-- A block that is no row of bytes stays. -/
theorem Wk.box {N R k : Nat} {s : Ws} {w w' : World} (h : Wk N R k s w w') {g : Nat} {cs : Array Value} {T : TypeId} {fz : Nat × Nat} (hb : w.heap[g]? = some (.cells cs T fz)) (hT : T ≠ 5) (hg : g ≠ R) : w'.heap[g]? = some (.cells cs T fz) :=
  h.2.2 g _ hb (fun e => hg (Option.some.inj e)) (fun _ _ e => by injection e with _ e2 _; exact hT e2)
theorem Wv.cells {N R k : Nat} {s : Ws} {w : World} (h : Wv N R k s w) : w.cell? ⟨R, 2, none⟩ = some (.int .i64 (s.room : Int)) ∧ w.cell? ⟨R, 3, none⟩ = some (.bool s.full) ∧ w.cell? ⟨R, 4, none⟩ = some (.int .i64 (k : Int)) ∧ (∀ j, w.frozen? ⟨R, j, none⟩ = false) ∧ R < w.heap.size :=
  ⟨h.bld.cellAt 0, h.bld.cellAt 1, h.bld.cellAt 2, h.bld.frozenAt, h.lt⟩
theorem Wv.setK {N R k : Nat} {s : Ws} {w : World} (h : Wv N R k s w) (k' : Nat) (hk : k' ≤ 65536) : Wv N R k' s (w.setCell ⟨R, 4, none⟩ (.int .i64 (k' : Int))) :=
  ⟨h.bld.put 2 _, by simpa [World.setCell] using h.hN, h.rm, hk, mx_set h.mx h.ge⟩
theorem Wv.setF {N R k : Nat} {s : Ws} {w : World} (h : Wv N R k s w) (f : Bool) : Wv N R k ⟨s.out, s.room, f⟩ (w.setCell ⟨R, 3, none⟩ (.bool f)) :=
  ⟨h.bld.put 1 _, by simpa [World.setCell] using h.hN, h.rm, h.hk, mx_set h.mx h.ge⟩
theorem Wv.setR {N R k : Nat} {s : Ws} {w : World} (h : Wv N R k s w) (r : Nat) (hr : r ≤ 9223372036854775807) : Wv N R k ⟨s.out, r, s.full⟩ (w.setCell ⟨R, 2, none⟩ (.int .i64 (r : Int))) :=
  ⟨h.bld.put 0 _, by simpa [World.setCell] using h.hN, hr, h.hk, mx_set h.mx h.ge⟩
theorem Wk.set {N R k k' : Nat} {s s' : Ws} {w a : World} (h : Wk N R k s w a) {j : Nat} {v : Value} (hv : Wv N R k' s' (a.setCell ⟨R, j, none⟩ v)) : Wk N R k' s' w (a.setCell ⟨R, j, none⟩ v) :=
  ⟨hv, h.2.1.setCell (p := ⟨R, j, none⟩) h.1.ge v, h.2.2.setCell ⟨R, j, none⟩ rfl v⟩
/-- A string goes behind what was written. -/
theorem wvStr {N R k : Nat} {s : Ws} {w : World} (t : ByteArray) (h : Wv N R k s w) (hlen : s.out.length + (vbl t).length ≤ 140737488355328) :
    Calls Tryz.prog 112 #[.pointer (some ⟨R, 0, none⟩), .string t] w fun e w' => e = .returned (.tuple #[.int .i64 t.size, .nilIface]) ∧ Wk N R k ⟨s.out ++ vbl t, s.room, s.full⟩ w w' := by
  refine (writeString_any t Fit.writer h.bld (by rw [Lib.byteCells_length]; exact hlen) h.hN).mono ?_
  rintro e w' ⟨he, h1, h2, h3⟩
  exact ⟨he, ⟨by rw [byte_app, ← byte_str]; exact h1, Nat.le_trans h.hN h2.size, h.rm, h.hk, mx_below h.mx h2⟩, h2, h3⟩

/-! ### texts handed in -/
/-- Strings that lie in a row at g. -/
def TxAt (w : World) (R g : Nat) (l : List ByteArray) : Prop := g ≠ R ∧ ∃ (cs : Array Value) (T : TypeId) (fz : Nat × Nat), w.heap[g]? = some (.cells cs T fz) ∧ T ≠ 5 ∧ ∀ (j : Nat) (t : ByteArray), l[j]? = some t → cs[j]? = some (Value.string t)
theorem TxAt.keep {N R k : Nat} {s : Ws} {w w' : World} {g : Nat} {l : List ByteArray} (h : TxAt w R g l) (hk : Wk N R k s w w') : TxAt w' R g l := by
  obtain ⟨hg, cs, T, fz, hb, hT, hc⟩ := h
  exact ⟨hg, cs, T, fz, hk.box hb hT hg, hT, hc⟩
theorem TxAt.cell {w : World} {R g : Nat} {l : List ByteArray} (h : TxAt w R g l) {j : Nat} {t : ByteArray} (ht : l[j]? = some t) : w.cell? ⟨g, j, none⟩ = some (.string t) := by
  obtain ⟨_, cs, T, fz, hb, _, hc⟩ := h
  rw [Lib.cell_of_heap hb]
  exact hc j t ht
theorem TxAt.lt {w : World} {R g : Nat} {l : List ByteArray} (h : TxAt w R g l) : g < w.heap.size := by
  obtain ⟨_, cs, T, fz, hb, _⟩ := h
  exact (Array.getElem?_eq_some_iff.1 hb).1
theorem wrs_full : ∀ (l : List (List UInt8)) (s : Ws), s.full = true → wrs l s = s
  | [], _, _ => rfl
  | t :: r, s, h => by
    unfold wrs
    have e : wrT t s = s := by unfold wrT; rw [if_pos h]
    rw [e]
    exact wrs_full r s h
theorem wr_big {t : List UInt8} {s : Ws} (h0 : s.full = false) (h : s.room < t.length) : wrT t s = ⟨s.out, s.room, true⟩ := by
  unfold wrT
  rw [h0, if_neg (by decide), if_pos h]
theorem wr_fits {t : List UInt8} {s : Ws} (h0 : s.full = false) (h : ¬ s.room < t.length) : wrT t s = ⟨s.out ++ t, s.room - t.length, false⟩ := by
  unfold wrT
  rw [h0, if_neg (by decide), if_neg h]

set_option maxHeartbeats 4000000 in
set_option maxRecDepth 100000 in
theorem write_any {N R k g : Nat} {s : Ws} {l : List ByteArray} {cap : Nat} (w : World) (h : Wv N R k s w) (ht : TxAt w R g l) (hl : l.length ≤ 100) (hc : l.length ≤ cap) (hlen : (wrs (l.map vbl) s).out.length ≤ 140737488355328) :
    Calls Tryz.prog 69 #[.pointer (some ⟨R, 0, none⟩), .slice (some ⟨g, 0, none⟩) l.length cap] w (WAns N R k (wrs (l.map vbl) s) w) := by
  have HT := Lib.hid ht
  have HH := Lib.hid h
  have HLEN := Lib.hid hlen
  clear h ht hlen
  go_enter Tryz.func69, Tryz.ntmps69
  go_wp2_with fail
  go_loopg [5, 8] l.length (fun j _ v8 wr => ∃ (i : Nat) (s' : Ws), v8 = .int .i64 (i : Int) ∧ i ≤ l.length ∧ j = l.length - i ∧ Hid (wrs (l.map vbl) s = wrs ((l.drop i).map vbl) s') ∧ Wk N R k s' w wr)
  case atStart => exact ⟨0, s, rfl, Nat.zero_le _, rfl, Lib.hid (by rw [List.drop_zero]), .refl HH.out⟩
  case round =>
    obtain ⟨i, s', rfl, hi, hj, HS, hk⟩ := hrel
    have hw : IntKind.i64.wrap ((i : Int) + 1) = (i : Int) + 1 := IntWalk.i64_in _ (by omega)
    have HK := Lib.hid hk
    obtain ⟨c2, c3, -, hfz, hRl⟩ := hk.1.cells
    by_cases hlt : i < l.length
    · have hd : decide ((i : Int) < (l.length : Int)) = true := decide_eq_true (by omega)
      have hd2 : decide (i < l.length) = true := decide_eq_true hlt
      have hicp : i < cap := by omega
      have hx : l[i]? = some l[i] := List.getElem?_eq_getElem hlt
      have r0 := (HT.out.keep hk).cell hx
      have HS2 := Lib.hid (show wrs (l.map vbl) s = wrs ((l.drop (i + 1)).map vbl) (wrT (vbl l[i]) s') by rw [HS.out, List.drop_eq_getElem_cons hlt]; rfl)
      generalize l[i] = T at *
      have hrm := hk.1.rm
      clear hk hx
      cases hf : s'.full with
      | true =>
        rw [hf] at c3
        have HF := Lib.hid hf
        have HE := Lib.hid (show wrs (l.map vbl) s = s' by rw [HS.out, wrs_full _ _ hf])
        have HZ := Lib.hid (HK.out.set (HK.out.1.setF true))
        clear hf
        go_wp2_with fail
        refine bodyPost_ret (v := .tuple #[]) (results_none rfl _ _ _) rfl ?_
        rw [HE.out]
        have h3 : (⟨s'.out, s'.room, true⟩ : Ws) = s' := by rw [← HF.out]
        exact ⟨rfl, h3 ▸ HZ.out⟩
      | false =>
        rw [hf] at c3
        have HF := Lib.hid hf
        clear hf
        by_cases hbig : s'.room < T.size
        · have hd3 : decide ((s'.room : Int) < (T.size : Int)) = true := decide_eq_true (by omega)
          have hd4 : decide (s'.room < T.size) = true := decide_eq_true hbig
          have HE := Lib.hid (show wrs (l.map vbl) s = ⟨s'.out, s'.room, true⟩ by rw [HS2.out, wr_big (t := vbl T) HF.out hbig, wrs_full _ _ rfl])
          have HZ := Lib.hid (HK.out.set (HK.out.1.setF true))
          clear hbig
          go_wp2_with fail
          refine bodyPost_ret (v := .tuple #[]) (results_none rfl _ _ _) rfl ?_
          rw [HE.out]
          exact ⟨rfl, HZ.out⟩
        · have hd3 : decide ((s'.room : Int) < (T.size : Int)) = false := decide_eq_false (by omega)
          have hd4 : decide (s'.room < T.size) = false := decide_eq_false hbig
          have hw2 : IntKind.i64.wrap ((s'.room : Int) - (T.size : Int)) = ((s'.room - T.size : Nat) : Int) := by rw [IntWalk.i64_in _ (by omega)]; omega
          have HE := Lib.hid (show wrs (l.map vbl) s = wrs ((l.drop (i + 1)).map vbl) ⟨s'.out ++ vbl T, s'.room - T.size, false⟩ by rw [HS2.out, wr_fits (t := vbl T) HF.out hbig]; rfl)
          have hmo : s'.out.length + (vbl T).length ≤ 140737488355328 := by
            have h1 := wrs_k (I := Mo ⟨s'.out ++ vbl T, s'.room - T.size, false⟩) (mo_wr _) ((l.drop (i + 1)).map vbl) _ (Nat.le_refl _)
            unfold Mo at h1
            rw [← HE.out] at h1
            dsimp only at h1
            have h2 : (s'.out ++ vbl T).length = s'.out.length + (vbl T).length := List.length_append
            have := HLEN.out
            show _ ≤ _
            omega
          have HZ1 := HK.out.set (HK.out.1.setF false)
          have HZ2 := HZ1.set (HZ1.1.setR (s'.room - T.size) (by omega))
          have HC := wvStr T HZ2.1 hmo
          have HZ := Lib.hid HZ2
          clear hbig HZ1 HZ2 hmo
          go_wp2_with fail
          refine HC.mono ?_
          rintro e w2 ⟨rfl, hk2⟩
          have HK2 := Lib.hid (HZ.out.trans hk2)
          clear hk2 HC
          go_wp2_with fail
          go_roundg (l.length - (i + 1))
          case measure => omega
          case rel => exact ⟨i + 1, _, by simp, by omega, rfl, Lib.hid HE.out, HK2.out⟩
    · have hd : decide ((i : Int) < (l.length : Int)) = false := decide_eq_false (by omega)
      have hd2 : decide (i < l.length) = false := decide_eq_false hlt
      have HE := Lib.hid (show wrs (l.map vbl) s = s' by rw [HS.out, List.drop_of_length_le (by omega)]; rfl)
      clear hk
      go_wp2_with fail
      go_end0
      rw [HE.out]
      exact ⟨rfl, HK.out⟩

end Go.Proofs.YtkfllppggjhhmaaGreatDoor
/-
  print's writer: what its rows of parts share.
-/
namespace Go.Proofs.YtkfllppggjhhmaaGreatDoor
open Go.RowKit

/-- One string, laid for a call of write. -/
theorem txOne {N R k : Nat} {s : Ws} {w W : World} {v : ByteArray} (h : Wk N R k s w W) : Wk N R k s W (W.alloc (.cells #[.string v] 9)) ∧ TxAt (W.alloc (.cells #[.string v] 9)) R W.heap.size [v] := by
  refine ⟨(Wk.refl h.1).alloc _, by have := h.1.lt; omega, _, _, _, heap_alloc_new _ _, by decide, fun j t hj => ?_⟩
  match j, hj with
  | 0, hj => simp at hj; subst hj; rfl
/-- Two strings. -/
theorem txTwo {N R k : Nat} {s : Ws} {w W : World} {v u : ByteArray} (h : Wk N R k s w W) : Wk N R k s W (W.alloc (.cells #[.string v, .string u] 9)) ∧ TxAt (W.alloc (.cells #[.string v, .string u] 9)) R W.heap.size [v, u] := by
  refine ⟨(Wk.refl h.1).alloc _, by have := h.1.lt; omega, _, _, _, heap_alloc_new _ _, by decide, fun j t hj => ?_⟩
  match j, hj with
  | 0, hj => simp at hj; subst hj; rfl
  | 1, hj => simp at hj; subst hj; rfl
/-- Four strings. -/
theorem txFour {N R k : Nat} {s : Ws} {w W : World} {v u x y : ByteArray} (h : Wk N R k s w W) : Wk N R k s W (W.alloc (.cells #[.string v, .string u, .string x, .string y] 9)) ∧ TxAt (W.alloc (.cells #[.string v, .string u, .string x, .string y] 9)) R W.heap.size [v, u, x, y] := by
  refine ⟨(Wk.refl h.1).alloc _, by have := h.1.lt; omega, _, _, _, heap_alloc_new _ _, by decide, fun j t hj => ?_⟩
  match j, hj with
  | 0, hj => simp at hj; subst hj; rfl
  | 1, hj => simp at hj; subst hj; rfl
  | 2, hj => simp at hj; subst hj; rfl
  | 3, hj => simp at hj; subst hj; rfl
theorem agg4_inj' {a b c d a' b' c' d' : Value} (h : Value.agg #[a, b, c, d] = .agg #[a', b', c', d']) : a = a' ∧ b = b' ∧ c = c' ∧ d = d' := by
  injection h with h
  have h' := congrArg Array.toList h
  simp at h'
  exact h'

end Go.Proofs.YtkfllppggjhhmaaGreatDoor
/-
  A row of tokens, as a later call finds it.
-/
namespace Go.Proofs.YtkfllppggjhhmaaGreatDoor
open Go.RowKit

theorem tkCells_at : ∀ (ts : List Tk) (j : Nat) (t : Tk), ts[j]? = some t → (tkCells ts)[j * 3]? = some (.int .i64 t.k) ∧ (tkCells ts)[j * 3 + 1]? = some (.string ⟨t.s.toArray⟩) ∧ (tkCells ts)[j * 3 + 2]? = some (.int .i64 t.at_)
  | [], _, _, h => by simp at h
  | a :: ts, 0, t, h => by
    simp only [List.getElem?_cons_zero, Option.some.injEq] at h
    subst h
    exact ⟨rfl, rfl, rfl⟩
  | a :: ts, j + 1, t, h => by
    have := tkCells_at ts j t (by simpa using h)
    have e : tkCells (a :: ts) = [.int .i64 a.k, .string ⟨a.s.toArray⟩, .int .i64 a.at_] ++ tkCells ts := rfl
    rw [e, show (j + 1) * 3 = 3 + j * 3 by omega]
    refine ⟨?_, ?_, ?_⟩
    · rw [List.getElem?_append_right (by simp)]; simpa using this.1
    · rw [List.getElem?_append_right (by simp; omega)]
      rw [show 3 + j * 3 + 1 - [Value.int .i64 a.k, .string ⟨a.s.toArray⟩, .int .i64 a.at_].length = j * 3 + 1 by simp; omega]
      exact this.2.1
    · rw [List.getElem?_append_right (by simp; omega)]
      rw [show 3 + j * 3 + 2 - [Value.int .i64 a.k, .string ⟨a.s.toArray⟩, .int .i64 a.at_].length = j * 3 + 2 by simp; omega]
      exact this.2.2
/-- A row of tokens, as a call finds it. -/
def TkAt (w : World) (a : Option Addr) (ts : List Tk) : Prop := 0 < ts.length → ∃ g, a = some ⟨g, 0, none⟩ ∧ ∀ j u, (tkCells ts)[j]? = some u → w.cell? ⟨g, j, none⟩ = some u
theorem tkAt_of {w : World} {B : Nat} {T : TypeId} {v : Value} {ts : List Tk} (h : w.ownsRow B T 3 v ts.length (tkCells ts)) : ∃ a cap, v = .slice a ts.length cap ∧ ts.length ≤ cap ∧ TkAt w a ts ∧ ∀ w', Below w.heap.size w w' → TkAt w' a ts := by
  rcases h.2 with ⟨hv, h0⟩ | ⟨g, cap, cur, hv, hB, hg, hcap, _⟩
  · exact ⟨none, 0, by rw [hv, h0], by omega, fun h' => absurd h' (by omega), fun _ _ h' => absurd h' (by omega)⟩
  · refine ⟨some ⟨g, 0, none⟩, cap, hv, hcap, fun _ => ⟨g, rfl, fun j u hj => ?_⟩, fun w' hb _ => ⟨g, rfl, fun j u hj => ?_⟩⟩
    · have := h.cells (g := g) (by rw [hv]; rfl) j u hj
      have e : (⟨g, 0, none⟩ : Addr).add j = ⟨g, j, none⟩ := by cases j <;> simp [Addr.add]
      rwa [e] at this
    · have := (own_below h hb).cells (g := g) (by rw [hv]; rfl) j u hj
      have e : (⟨g, 0, none⟩ : Addr).add j = ⟨g, j, none⟩ := by cases j <;> simp [Addr.add]
      rwa [e] at this

end Go.Proofs.YtkfllppggjhhmaaGreatDoor
/-
  value's reader: a token, a sign, a name; what a token is by itself.
-/
namespace Go.Proofs.YtkfllppggjhhmaaGreatDoor
open Go.RowKit

/-- The reader lies in block R: the tokens, and where it stands. -/
structure Rv (w : World) (R : Nat) (a : Option Addr) (cap : Nat) (ts : List Tk) (p : Nat) : Prop where
  c0 : w.cell? ⟨R, 0, none⟩ = some (.slice a ts.length cap)
  c1 : w.cell? ⟨R, 1, none⟩ = some (.int .i64 p)
  fz : ∀ j, w.frozen? ⟨R, j, none⟩ = false
  hp : p ≤ ts.length
  hc : ts.length ≤ cap
  hs : ts.length ≤ 9000
  sz : ∀ t ∈ ts, t.s.length ≤ 1000000
  tk : 0 < ts.length → ∃ g, a = some ⟨g, 0, none⟩ ∧ g ≠ R ∧ ∀ j u, (tkCells ts)[j]? = some u → w.cell? ⟨g, j, none⟩ = some u

theorem cell_lt {w : World} {b o : Nat} {v : Value} (h : w.cell? ⟨b, o, none⟩ = some v) : b < w.heap.size := by
  unfold World.cell? at h
  by_cases hl : b < w.heap.size
  · exact hl
  · simp only [Array.getElem?_eq_none (show w.heap.size ≤ b by omega)] at h
    cases h
theorem Rv.lt {w : World} {R : Nat} {a : Option Addr} {cap : Nat} {ts : List Tk} {p : Nat} (h : Rv w R a cap ts p) : R < w.heap.size := cell_lt h.c0
theorem tkCells_first {ts : List Tk} (h : 0 < ts.length) : ∃ u, (tkCells ts)[0]? = some u := by
  obtain ⟨h0, _⟩ := tkCells_at ts 0 ts[0] (List.getElem?_eq_getElem h)
  exact ⟨_, h0⟩
/-- What is older than the world stays, but for block R. -/
theorem Rv.keep {w w' : World} {R : Nat} {a : Option Addr} {cap : Nat} {ts : List Tk} {p : Nat} (h : Rv w R a cap ts p) (hR : w'.heap[R]? = w.heap[R]?) (hb : ∀ g, g < w.heap.size → g ≠ R → w'.heap[g]? = w.heap[g]?) : Rv w' R a cap ts p := by
  have c : ∀ o, w'.cell? ⟨R, o, none⟩ = w.cell? ⟨R, o, none⟩ := fun o => World.cell?_of_block (a := ⟨R, o, none⟩) hR
  refine ⟨(c 0).trans h.c0, (c 1).trans h.c1, fun j => (World.frozen?_of_block (a := ⟨R, j, none⟩) hR).trans (h.fz j), h.hp, h.hc, h.hs, h.sz, fun h0 => ?_⟩
  obtain ⟨g, e, hg, hcell⟩ := h.tk h0
  refine ⟨g, e, hg, fun j u hj => ?_⟩
  have := hcell j u hj
  exact (World.cell?_of_block (a := ⟨g, j, none⟩) (hb g (cell_lt this) hg)).trans this
theorem Rv.below {w w' : World} {R : Nat} {a : Option Addr} {cap : Nat} {ts : List Tk} {p : Nat} (h : Rv w R a cap ts p) (hb : Below w.heap.size w w') : Rv w' R a cap ts p :=
  h.keep (hb.block R h.lt) (fun g hg _ => hb.block g hg)
theorem Rv.alloc {w : World} {R : Nat} {a : Option Addr} {cap : Nat} {ts : List Tk} {p : Nat} (h : Rv w R a cap ts p) (o : Obj) : Rv (w.alloc o) R a cap ts p := h.below ((Below.refl _ w).alloc (Nat.le_refl _) o)
theorem Rv.drew {w : World} {R : Nat} {a : Option Addr} {cap : Nat} {ts : List Tk} {p : Nat} (h : Rv w R a cap ts p) : Rv w.drew R a cap ts p := h.keep rfl (fun _ _ _ => rfl)
theorem Rv.setAt {w : World} {R : Nat} {a : Option Addr} {cap : Nat} {ts : List Tk} {p : Nat} (h : Rv w R a cap ts p) {z : Int} {q : Nat} (hz : z = q) (hq : q ≤ ts.length) : Rv (w.setCell ⟨R, 1, none⟩ (.int .i64 z)) R a cap ts q := by
  subst hz
  refine ⟨(World.cell?_setCell_other _ _ _ _ (by simp)).trans h.c0, World.cell?_setCell_same _ _ _ h.c1, fun j => (World.frozen?_setCell _ _ _ _).trans (h.fz j), hq, h.hc, h.hs, h.sz, fun h0 => ?_⟩
  obtain ⟨g, e, hg, hcell⟩ := h.tk h0
  refine ⟨g, e, hg, fun j u hj => ?_⟩
  rw [World.cell?_setCell_other _ _ _ _ (by intro e; have := congrArg Addr.block e; exact hg this.symm)]
  exact hcell j u hj
theorem Rv.keepT {w w' : World} {R : Nat} {a : Option Addr} {cap : Nat} {ts : List Tk} {p : Nat} (h : Rv w R a cap ts p) (hR : w'.heap[R]? = w.heap[R]?) (hb : ∀ g, a = some ⟨g, 0, none⟩ → 0 < ts.length → w'.heap[g]? = w.heap[g]?) : Rv w' R a cap ts p := by
  have c : ∀ o, w'.cell? ⟨R, o, none⟩ = w.cell? ⟨R, o, none⟩ := fun o => World.cell?_of_block (a := ⟨R, o, none⟩) hR
  refine ⟨(c 0).trans h.c0, (c 1).trans h.c1, fun j => (World.frozen?_of_block (a := ⟨R, j, none⟩) hR).trans (h.fz j), h.hp, h.hc, h.hs, h.sz, fun h0 => ?_⟩
  obtain ⟨g, e, hg, hcell⟩ := h.tk h0
  exact ⟨g, e, hg, fun j u hj => (World.cell?_of_block (a := ⟨g, j, none⟩) (hb g e h0)).trans (hcell j u hj)⟩
theorem Rv.tokLt {w : World} {R : Nat} {a : Option Addr} {cap : Nat} {ts : List Tk} {p : Nat} (h : Rv w R a cap ts p) : ∀ g, a = some ⟨g, 0, none⟩ → 0 < ts.length → g < w.heap.size := fun g e h0 => by
  obtain ⟨g', e', _, hc⟩ := h.tk h0
  obtain ⟨u, hu⟩ := tkCells_first h0
  rw [e] at e'
  injection e' with e'
  injection e' with e' _ _
  subst e'
  exact cell_lt (hc 0 u hu)
theorem Rv.four {w : World} {R : Nat} {a : Option Addr} {cap : Nat} {ts : List Tk} {p : Nat} (h : Rv w R a cap ts p) {B : Nat} (hR : R ≠ B) (hg : ∀ g, a = some ⟨g, 0, none⟩ → 0 < ts.length → g ≠ B) (c0 c1 c2 c3 : Value) : Rv ((((w.setCell ⟨B, 0, none⟩ c0).setCell ⟨B, 1, none⟩ c1).setCell ⟨B, 2, none⟩ c2).setCell ⟨B, 3, none⟩ c3) R a cap ts p :=
  h.keepT (heap_four _ _ _ _ _ _ R hR) (fun g e h0 => heap_four _ _ _ _ _ _ g (hg g e h0))

/-- The tokens ahead of it. -/
def ahead (ts : List Tk) (p : Nat) : List Sk := (ts.drop p).map strip
theorem ahead_tail (ts : List Tk) (p : Nat) : (ahead ts p).tail = ahead ts (p + 1) := by
  unfold ahead
  rw [← List.map_tail, List.tail_drop]
theorem ahead_len (ts : List Tk) (p : Nat) : (ahead ts p).length = ts.length - p := by unfold ahead; rw [List.length_map, List.length_drop]
theorem ahead_hd (ts : List Tk) (p : Nat) (t : Tk) (h : ts[p]? = some t) : hdK (ahead ts p) = strip t := by
  have hl := (List.getElem?_eq_some_iff.1 h).1
  unfold ahead
  rw [List.drop_eq_getElem_cons hl]
  have := (List.getElem?_eq_some_iff.1 h).2
  rw [← this]; rfl
theorem ahead_end (ts : List Tk) : ahead ts ts.length = [] := by unfold ahead; rw [List.drop_length]; rfl

/-- It has gone on to l; nothing else has changed. -/
def NowV (R : Nat) (a : Option Addr) (cap : Nat) (ts : List Tk) (w : World) (l : List Sk) (w' : World) : Prop := ∃ p, ahead ts p = l ∧ Rv w' R a cap ts p ∧ Aw R w.heap.size w w'

theorem below_four {n B : Nat} {a W : World} (h : Below n a W) (hB : n ≤ B) (c0 c1 c2 c3 : Value) : Below n a ((((W.setCell ⟨B, 0, none⟩ c0).setCell ⟨B, 1, none⟩ c1).setCell ⟨B, 2, none⟩ c2).setCell ⟨B, 3, none⟩ c3) :=
  (((h.setCell (p := ⟨B, 0, none⟩) hB c0).setCell (p := ⟨B, 1, none⟩) hB c1).setCell (p := ⟨B, 2, none⟩) hB c2).setCell (p := ⟨B, 3, none⟩) hB c3

set_option maxHeartbeats 1000000 in
set_option maxRecDepth 100000 in
theorem isSign_any (t : Tk) (c : UInt8) (w : World) : Calls Tryz.prog 327 #[.agg #[.int .i64 t.k, .string ⟨t.s.toArray⟩, .int .i64 t.at_], .string ⟨#[c]⟩] w fun e w' => e = .returned (.bool (sg (strip t) c)) ∧ Below w.heap.size w w' := by
  have hbA : ∀ o, Below w.heap.size w (w.alloc o) := fun o => (Below.refl _ w).alloc (Nat.le_refl _) o
  cases hk : ((t.k : Int) == 5) with
  | false =>
    have HS := Lib.hid (show sg (strip t) c = false by unfold sg strip; rw [show (t.k == 5) = false by simp at hk ⊢; omega]; rfl)
    go_enter Tryz.func327, Tryz.ntmps327
    go_wp2_with fail
    go_ret
    exact ⟨by rw [HS.out]; rfl, hbA _⟩
  | true =>
    have HS := Lib.hid (show sg (strip t) c = (t.s == [c]) by unfold sg strip; rw [show (t.k == 5) = true by simp at hk ⊢; omega]; rfl)
    go_enter Tryz.func327, Tryz.ntmps327
    go_wp2_with fail
    go_ret
    refine ⟨?_, hbA _⟩
    rw [HS.out]; rfl

theorem below_drewN {B : Nat} {a w : World} (h : Below B a w) (k : Nat) : Below B a (w.drewN k) := ⟨h.os, h.tape, h.output, h.size, h.block⟩
/-- The token ahead; of no kind at the end. -/
theorem ahead_tok {w : World} {R : Nat} {a : Option Addr} {cap : Nat} {ts : List Tk} {p : Nat} (h : Rv w R a cap ts p) : (p = ts.length ∧ strip ⟨0, [], 0⟩ = hdK (ahead ts p)) ∨ (p < ts.length ∧ ∃ t g, strip t = hdK (ahead ts p) ∧ t.s.length ≤ 1000000 ∧ a = some ⟨g, 0, none⟩ ∧ g < w.heap.size ∧ w.cell? ⟨g, p * 3, none⟩ = some (.int .i64 t.k) ∧ w.cell? ⟨g, p * 3 + 1, none⟩ = some (.string ⟨t.s.toArray⟩) ∧ w.cell? ⟨g, p * 3 + 2, none⟩ = some (.int .i64 t.at_)) := by
  have hp := h.hp
  by_cases he : p = ts.length
  · left
    refine ⟨he, ?_⟩
    rw [he, ahead_end]; rfl
  · right
    have hl : p < ts.length := by omega
    obtain ⟨g, ha, _, hc⟩ := h.tk (by omega)
    obtain ⟨k0, k1, k2⟩ := tkCells_at ts p ts[p] (List.getElem?_eq_getElem hl)
    exact ⟨hl, ts[p], g, (ahead_hd ts p _ (List.getElem?_eq_getElem hl)).symm, h.sz _ (List.getElem_mem hl), ha, cell_lt (hc _ _ k0), hc _ _ k0, hc _ _ k1, hc _ _ k2⟩

/-- Where the token is written to, as it was laid. -/
theorem token_any {R : Nat} {a : Option Addr} {cap : Nat} {ts : List Tk} {p : Nat} (w : World) (h : Rv w R a cap ts p) : Calls Tryz.prog 328 #[.pointer (some ⟨R, 0, none⟩)] w fun e w' => ∃ t : Tk, strip t = hdK (ahead ts p) ∧ t.s.length ≤ 1000000 ∧ e = .returned (.agg #[.int .i64 t.k, .string ⟨t.s.toArray⟩, .int .i64 t.at_]) ∧ Below w.heap.size w w' := by
  have hRlt := h.lt
  have hx := ahead_tok h
  have hA := h.alloc (.cells #[.int .i64 0, .string ⟨#[]⟩, .int .i64 0] 150)
  have c0 := hA.c0
  have c1 := hA.c1
  have hs := h.hs
  have hc := h.hc
  have hbA : Below w.heap.size w (w.alloc (.cells #[.int .i64 0, .string ⟨#[]⟩, .int .i64 0] 150)) := (Below.refl _ w).alloc (Nat.le_refl _) _
  clear hA
  rcases hx with ⟨he, hst⟩ | ⟨hl, t, g, hst, hsz, rfl, hg, g0, g1, g2⟩
  · have e1 : ((p : Int) == (ts.length : Int)) = true := by simp; omega
    have HST := Lib.hid hst
    clear he hst h
    generalize ts.length = n at *
    go_enter Tryz.func328, Tryz.ntmps328
    go_upto_region 1 with fail
    go_quiet (fail)
    go_wp2_with fail
    refine bodyPost_ret (v := .agg #[.int .i64 0, .string ⟨#[]⟩, .int .i64 0]) (by simp [results, Tryz.results328, go_sem]) rfl ?_
    exact ⟨⟨0, [], 0⟩, HST.out, Nat.zero_le _, rfl, below_three (below_drewN hbA _) _ _ _⟩
  · have e1 : ((p : Int) == (ts.length : Int)) = false := by simp; omega
    have HST := Lib.hid hst
    clear hst h
    generalize ts.length = n at *
    go_enter Tryz.func328, Tryz.ntmps328
    go_upto_region 1 with fail
    go_quiet (fail)
    go_upto_region 3 with fail
    go_region
    all_goals
      go_wp2_with fail
      refine bodyPost_ret (v := .agg #[.int .i64 t.k, .string ⟨t.s.toArray⟩, .int .i64 t.at_]) (by simp [results, Tryz.results328, go_sem]) rfl ?_
      exact ⟨t, HST.out, hsz, rfl, below_three (below_drewN hbA _) _ _ _⟩

end Go.Proofs.YtkfllppggjhhmaaGreatDoor
/-
  value's reader: a sign, a name that is taken; a token by itself; a variable.
-/
namespace Go.Proofs.YtkfllppggjhhmaaGreatDoor
open Go.RowKit

theorem ahead_pos {ts : List Tk} {p : Nat} {c : UInt8} (hp : p ≤ ts.length) (h : sg (hdK (ahead ts p)) c = true) : p < ts.length := by
  by_cases e : p = ts.length
  · rw [e, ahead_end] at h
    exact absurd h (by unfold sg hdK; simp)
  · omega
theorem ahead_pos1 {ts : List Tk} {p : Nat} (hp : p ≤ ts.length) (h : (hdK (ahead ts p)).1 = 1) : p < ts.length := by
  by_cases e : p = ts.length
  · rw [e, ahead_end] at h
    exact absurd h (by unfold hdK; simp)
  · omega

set_option maxHeartbeats 1000000 in
theorem takeSign_no (c : UInt8) {R : Nat} {a : Option Addr} {cap : Nat} {ts : List Tk} {p : Nat} (w : World) (h : Rv w R a cap ts p) (hs : sg (hdK (ahead ts p)) c = false) :
    Calls Tryz.prog 322 #[.pointer (some ⟨R, 0, none⟩), .string ⟨#[c]⟩] w fun e w' => e = .returned (.bool false) ∧ Below w.heap.size w w' := by
  have HT := token_any w h
  clear h
  go_enter Tryz.func322, Tryz.ntmps322
  go_wp2_with fail
  refine HT.mono ?_
  rintro e w1 ⟨t, ht, _, rfl, hb⟩
  have HI := isSign_any t c w1
  rw [ht, hs] at HI
  clear ht hs
  go_wp2_with fail
  refine HI.mono ?_
  rintro e w2 ⟨rfl, hb2⟩
  go_wp2_with fail
  go_ret
  exact ⟨rfl, hb.trans (hb2.mono hb.size)⟩

set_option maxHeartbeats 1000000 in
theorem takeSign_yes (c : UInt8) {R : Nat} {a : Option Addr} {cap : Nat} {ts : List Tk} {p : Nat} (w : World) (h : Rv w R a cap ts p) (hs : sg (hdK (ahead ts p)) c = true) :
    Calls Tryz.prog 322 #[.pointer (some ⟨R, 0, none⟩), .string ⟨#[c]⟩] w fun e w' => e = .returned (.bool true) ∧ NowV R a cap ts w (ahead ts p).tail w' := by
  have HT := token_any w h
  have hpos := ahead_pos h.hp hs
  have hs9 := h.hs
  go_enter Tryz.func322, Tryz.ntmps322
  go_wp2_with fail
  refine HT.mono ?_
  rintro e w1 ⟨t, ht, _, rfl, hb⟩
  have HI := isSign_any t c w1
  rw [ht, hs] at HI
  clear ht hs
  go_wp2_with fail
  refine HI.mono ?_
  rintro e w2 ⟨rfl, hb2⟩
  have hb3 := hb.trans (hb2.mono hb.size)
  have hr := h.below hb3
  have HN := Lib.hid (show NowV R a cap ts w (ahead ts p).tail (w2.setCell ⟨R, 1, none⟩ (.int .i64 ((p : Int) + 1))) from ⟨p + 1, (ahead_tail ts p).symm, hr.setAt (q := p + 1) (by omega) (by omega), (Aw.of hb3).set _⟩)
  have c1 := hr.c1
  have fz := hr.fz 1
  have hw : IntKind.i64.wrap ((p : Int) + 1) = (p : Int) + 1 := IntWalk.i64_in _ (by omega)
  clear h hr HT hpos hs9 hb hb2 hb3
  go_wp2_with fail
  go_ret
  exact ⟨rfl, HN.out⟩

set_option maxHeartbeats 1000000 in
theorem takeName_no {R : Nat} {a : Option Addr} {cap : Nat} {ts : List Tk} {p : Nat} (w : World) (h : Rv w R a cap ts p) (hs : (hdK (ahead ts p)).1 ≠ 1) :
    Calls Tryz.prog 323 #[.pointer (some ⟨R, 0, none⟩)] w fun e w' => e = .returned (.tuple #[.string ⟨#[]⟩, .bool false]) ∧ Below w.heap.size w w' := by
  have HT := token_any w h
  clear h
  go_enter Tryz.func323, Tryz.ntmps323
  go_wp2_with fail
  refine HT.mono ?_
  rintro e w1 ⟨t, ht, _, rfl, hb⟩
  have hk : ((t.k : Int) == 1) = false := by
    have e1 : t.k = (hdK (ahead ts p)).1 := congrArg Prod.fst ht
    rw [beq_eq_false_iff_ne]; omega
  have hbA : ∀ o, Below w.heap.size w (w1.alloc o) := fun o => hb.alloc hb.size o
  clear ht hs hb
  go_wp2_with fail
  go_ret2
  exact ⟨rfl, hbA _⟩

set_option maxHeartbeats 1000000 in
theorem takeName_yes {R : Nat} {a : Option Addr} {cap : Nat} {ts : List Tk} {p : Nat} (w : World) (h : Rv w R a cap ts p) (hs : (hdK (ahead ts p)).1 = 1) :
    Calls Tryz.prog 323 #[.pointer (some ⟨R, 0, none⟩)] w fun e w' => e = .returned (.tuple #[.string ⟨(hdK (ahead ts p)).2.toArray⟩, .bool true]) ∧ (hdK (ahead ts p)).2.length ≤ 1000000 ∧ NowV R a cap ts w (ahead ts p).tail w' := by
  have HT := token_any w h
  have hpos := ahead_pos1 h.hp hs
  have hs9 := h.hs
  have hlt := h.lt
  go_enter Tryz.func323, Tryz.ntmps323
  go_wp2_with fail
  refine HT.mono ?_
  rintro e w1 ⟨t, ht, hz, rfl, hb⟩
  have hk : ((t.k : Int) == 1) = true := by
    have e1 : t.k = (hdK (ahead ts p)).1 := congrArg Prod.fst ht
    rw [beq_iff_eq]; omega
  have HE := Lib.hid (show (hdK (ahead ts p)).2 = t.s from (congrArg Prod.snd ht).symm)
  have hr := (h.below hb).alloc (.cells #[.int .i64 t.k, .string ⟨t.s.toArray⟩, .int .i64 t.at_] 150)
  have hb1 := hb.size
  have HN := Lib.hid (show NowV R a cap ts w (ahead ts p).tail ((w1.alloc (.cells #[.int .i64 t.k, .string ⟨t.s.toArray⟩, .int .i64 t.at_] 150)).setCell ⟨R, 1, none⟩ (.int .i64 ((p : Int) + 1))) from ⟨p + 1, (ahead_tail ts p).symm, hr.setAt (q := p + 1) (by omega) (by omega), ((Aw.of hb).alloc hb.size _).set _⟩)
  have HZ := Lib.hid hz
  have c1 := hr.c1
  have fz := hr.fz 1
  have hw : IntKind.i64.wrap ((p : Int) + 1) = (p : Int) + 1 := IntWalk.i64_in _ (by omega)
  clear h hr HT hpos hs9 hb ht hs hz
  go_wp2_with fail
  go_ret2
  rw [HE.out]
  exact ⟨rfl, HZ.out, HN.out⟩

end Go.Proofs.YtkfllppggjhhmaaGreatDoor
