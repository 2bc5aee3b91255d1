/-
  doc's parser: a sign, a word, a name that must stand next.
-/
import Derived.Test.YtkfllppggjhhmaaGreatDoorMDq3
import Derived.Test.YtkfllppggjhhmaaGreatDoorMPm2
namespace Go.Proofs.YtkfllppggjhhmaaGreatDoor
open Go.RowKit

theorem Pw.trans {c : Cx} {k k2 : Nat} {s s2 : Ms} {w w1 w2 : World} (h : Pw c k s w w1) (h2 : Pw c k2 s2 w1 w2) : Pw c k2 s2 w w2 := ⟨h2.1, h.2.trans (h2.2.mono h.2.size)⟩
theorem Pw.below {c : Cx} {k : Nat} {s : Ms} {w w1 w2 : World} (h : Pw c k s w w1) (hb : Below w1.heap.size w1 w2) : Pw c k s w w2 := ⟨h.1.below hb h.1.hN, h.2.trans (.of (hb.mono h.2.size))⟩
theorem Pw.refl {c : Cx} {k : Nat} {s : Ms} {w : World} (h : Pv c k s w) : Pw c k s w w := .of h (Below.refl _ _)

set_option maxHeartbeats 2000000 in
set_option maxRecDepth 100000 in
theorem pMust_any {c : Cx} {k : Nat} {s : Ms} (g : List UInt8) (w : World) (h : Pv c k s w) : Calls Tryz.prog 277 #[.pointer (some ⟨c.R, 0, none⟩), .string ⟨g.toArray⟩] w fun e w' => e = .returned (.tuple #[]) ∧ Pw c k (sgM c.z g s) w w' := by
  have HT := pTakeSign_any g w h
  have HM := Lib.hid (show sgM c.z g s = if isSg g (hdT s.l) then tlM s else failM c.z 2 s from rfl)
  clear h
  cases hi : isSg g (hdT s.l) with
  | true =>
    rw [hi] at HT HM
    clear hi
    go_enter Tryz.func277, Tryz.ntmps277
    go_wp2_with fail
    refine HT.mono ?_
    rintro e w1 ⟨rfl, hp⟩
    go_wp2_with fail
    go_end0
    rw [HM.out]
    exact ⟨rfl, hp⟩
  | false =>
    rw [hi] at HT HM
    clear hi
    go_enter Tryz.func277, Tryz.ntmps277
    go_wp2_with fail
    refine HT.mono ?_
    rintro e w1 ⟨rfl, hp⟩
    rw [if_neg (by decide)] at hp
    have HF := pFail_any 2 w1 hp.1
    go_wp2_with fail
    refine HF.mono ?_
    rintro e w2 ⟨rfl, hp2⟩
    go_wp2_with fail
    go_end0
    rw [HM.out]
    exact ⟨rfl, hp.trans hp2⟩

set_option maxHeartbeats 2000000 in
set_option maxRecDepth 100000 in
theorem pMustWord_any {c : Cx} {k : Nat} {s : Ms} (g : List UInt8) (w : World) (h : Pv c k s w) : Calls Tryz.prog 187 #[.pointer (some ⟨c.R, 0, none⟩), .string ⟨g.toArray⟩] w fun e w' => e = .returned (.tuple #[]) ∧ Pw c k (wdM c.z g s) w w' := by
  have HT := pTakeWord_any g w h
  have HM := Lib.hid (show wdM c.z g s = if isWd g (hdT s.l) then tlM s else failM c.z 2 s from rfl)
  clear h
  cases hi : isWd g (hdT s.l) with
  | true =>
    rw [hi] at HT HM
    clear hi
    go_enter Tryz.func187, Tryz.ntmps187
    go_wp2_with fail
    refine HT.mono ?_
    rintro e w1 ⟨rfl, hp⟩
    go_wp2_with fail
    go_end0
    rw [HM.out]
    exact ⟨rfl, hp⟩
  | false =>
    rw [hi] at HT HM
    clear hi
    go_enter Tryz.func187, Tryz.ntmps187
    go_wp2_with fail
    refine HT.mono ?_
    rintro e w1 ⟨rfl, hp⟩
    rw [if_neg (by decide)] at hp
    have HF := pFail_any 2 w1 hp.1
    go_wp2_with fail
    refine HF.mono ?_
    rintro e w2 ⟨rfl, hp2⟩
    go_wp2_with fail
    go_end0
    rw [HM.out]
    exact ⟨rfl, hp.trans hp2⟩

theorem hdT_size {c : Cx} {k : Nat} {s : Ms} {w : World} (h : Pv c k s w) : (hdT s.l).s.length ≤ 2000000 := by
  obtain ⟨m, p, _, hp, hm, hl⟩ := h.bk
  rcases h.tok hp hm hl with ⟨_, e⟩ | ⟨_, t, _, e, _, _, _, _, hz, _⟩
  · rw [e]; decide
  · rw [e]; exact Nat.le_trans hz (by decide)
theorem nmM_size {c : Cx} {k : Nat} {s : Ms} {w : World} (h : Pv c k s w) : (nmM c.z s).1.length ≤ 2000000 := by
  unfold nmM
  split
  · exact hdT_size h
  · exact Nat.zero_le _

/-! ### how long a type is that has been read -/
theorem mem_opensLQ (x : Sk) : ∀ (k : Nat) (l : List Sk), x ∈ opensL k l → x ∈ l
  | 0, _, h => h
  | k + 1, l, h => by
    unfold opensL at h
    split at h
    · exact List.mem_of_mem_tail (mem_opensLQ x k _ h)
    · exact h
theorem hdK_memQ {l : List Sk} (h : (hdK l).1 = 1) : hdK l ∈ l := by
  cases l with
  | nil => exact absurd h (by decide)
  | cons a r => exact List.mem_cons_self ..
theorem bang_lenQ (l : List Sk) : (bangP l).1.length ≤ 1 := by
  unfold bangP
  split
  · exact Nat.le_refl 1
  · exact Nat.zero_le 1
theorem tyEnds_lenQ : ∀ (n : Nat) (l : List Sk) (ws : List UInt8) (q : List UInt8 × List Sk), tyEnds n l ws = some q → q.1.length ≤ ws.length + 2 * n
  | 0, l, ws, q, h => by
    unfold tyEnds at h
    injection h with h
    rw [← h]; exact Nat.le_refl _
  | n + 1, l, ws, q, h => by
    unfold tyEnds at h
    split at h
    · have h1 := tyEnds_lenQ n _ _ q h
      have h2 := bang_lenQ l.tail
      rw [List.length_append, List.length_cons] at h1
      omega
    · cases h
theorem type_lenQ {l : List Sk} {nm ws : List UInt8} {r : List Sk} (h : typeP l = some (nm, ws, r)) : (∃ t ∈ l, t.2 = nm) ∧ ws.length ≤ 100 := by
  unfold typeP at h
  split at h
  · rename_i h1
    cases ht : tyEnds (opensN 12 l) (bangP (opensL 12 l).tail).2 (bangP (opensL 12 l).tail).1 with
    | none => rw [ht] at h; cases h
    | some q =>
      rw [ht] at h
      injection h with h
      have h2 := tyEnds_lenQ _ _ _ _ ht
      have h3 := bang_lenQ (opensL 12 l).tail
      have h4 := opens_le 12 l
      refine ⟨⟨hdK (opensL 12 l), mem_opensLQ _ _ _ (hdK_memQ h1), congrArg (fun x => x.1) h⟩, ?_⟩
      rw [show ws = q.1 from (congrArg (fun x => x.2.1) h).symm]
      omega
  · cases h
theorem Pv.mem {c : Cx} {k : Nat} {s : Ms} {w : World} (h : Pv c k s w) : ∀ t ∈ s.l, t.s.length ≤ 1000000 := fun t ht => by
  obtain ⟨m, p, _, _, _, hl⟩ := h.bk
  rw [← hl] at ht
  exact h.sz t (List.mem_of_mem_take (List.mem_of_mem_drop ht))
theorem Pv.llen {c : Cx} {k : Nat} {s : Ms} {w : World} (h : Pv c k s w) : s.l.length ≤ 600 := by
  obtain ⟨m, p, _, _, _, hl⟩ := h.bk
  have := h.hs
  rw [← hl, List.length_drop, List.length_take]
  omega
theorem vaM_small (z : Nat) (m : List Tk) (s : Ms) (hm : ∀ t ∈ m, t.s.length ≤ 1000000) (hl : m.length ≤ 10000) : VS (vaM z m s).1 := by
  unfold vaM
  dsimp only
  split
  · rename_i h
    refine pvT_small 12 (m.map strip) (by rw [List.length_map]; exact hl) (fun t ht => ?_) h
    obtain ⟨u, hu, rfl⟩ := List.mem_map.1 ht
    exact hm u hu
  · exact vs_vz
theorem vlM_small {c : Cx} {k : Nat} {s : Ms} {w : World} (h : Pv c k s w) : VS (vlM c.z s).1 := vaM_small _ _ _ h.mem (by have := h.llen; omega)
theorem dfltM_small {c : Cx} {k : Nat} {s : Ms} {w : World} (h : Pv c k s w) : VS (dfltM c.z s).1 := by
  unfold dfltM
  split
  · have h1 : ∀ t ∈ (tlM s).l.takeWhile notVar, t ∈ s.l := fun t ht => List.mem_of_mem_tail ((List.takeWhile_sublist _).mem ht)
    refine vaM_small _ _ _ (fun t ht => h.mem t (h1 t ht)) ?_
    have h2 := (List.takeWhile_sublist (l := (tlM s).l) notVar).length_le
    have h3 : (tlM s).l.length ≤ s.l.length := by show s.l.tail.length ≤ _; rw [List.length_tail]; omega
    have := h.llen
    omega
  · exact vs_vz
theorem tyM_size {c : Cx} {k : Nat} {s : Ms} {w : World} (h : Pv c k s w) : (tyM c.z s).1.1.length ≤ 2000000 ∧ (tyM c.z s).1.2.length ≤ 2000000 := by
  unfold tyM
  split
  · rename_i n ws r he
    obtain ⟨⟨t, ht, e⟩, h2⟩ := type_lenQ he
    obtain ⟨u, hu, rfl⟩ := List.mem_map.1 ht
    refine ⟨?_, Nat.le_trans h2 (by decide)⟩
    show n.length ≤ _
    rw [← e]
    exact Nat.le_trans (h.mem u hu) (by decide)
  · exact ⟨Nat.zero_le _, Nat.zero_le _⟩

set_option maxHeartbeats 2000000 in
set_option maxRecDepth 100000 in
theorem pNm_any {c : Cx} {k : Nat} {s : Ms} (w : World) (h : Pv c k s w) : Calls Tryz.prog 188 #[.pointer (some ⟨c.R, 0, none⟩)] w fun e w' => e = .returned (.string ⟨(nmM c.z s).1.toArray⟩) ∧ Pw c k (nmM c.z s).2 w w' := by
  have HT := ptoken_any w h
  have HM := Lib.hid (show nmM c.z s = if (hdT s.l).k = 1 then ((hdT s.l).s, tlM s) else ([], failM c.z 2 s) from rfl)
  have HH := Lib.hid h
  have hs := h.hs
  by_cases hk : (hdT s.l).k = 1
  · rw [if_pos hk] at HM
    have hk5 : (hdT s.l).k ≠ 0 := by rw [hk]; decide
    have hne : (((hdT s.l).k : Int) != 1) = false := by simp; omega
    have F : ∀ w1, Below w.heap.size w w1 → ∃ p : Nat, Pw c k (tlM s) w1 ((w1.setCell ⟨c.R, 1, none⟩ (.int .i64 ((p : Int) + 1))).alloc (.cells #[.int .i64 (hdT s.l).k, .string ⟨(hdT s.l).s.toArray⟩, .int .i64 (hdT s.l).at_] 150)) ∧
        (w1.alloc (.cells #[.int .i64 (hdT s.l).k, .string ⟨(hdT s.l).s.toArray⟩, .int .i64 (hdT s.l).at_] 150)).cell? ⟨c.R, 1, none⟩ = some (.int .i64 (p : Int)) ∧ (w1.alloc (.cells #[.int .i64 (hdT s.l).k, .string ⟨(hdT s.l).s.toArray⟩, .int .i64 (hdT s.l).at_] 150)).frozen? ⟨c.R, 1, none⟩ = false ∧ IntKind.i64.wrap ((p : Int) + 1) = (p : Int) + 1 ∧ c.R < w1.heap.size := by
      intro w1 hb
      have h1 := h.below hb h.hN
      obtain ⟨m, p, hbk, hp, hm, hl⟩ := h1.bk
      have hlt := sg_pos h1 hp hm hl hk5
      have hbk2 := (Below.heap_alloc w1 (.cells #[.int .i64 (hdT s.l).k, .string ⟨(hdT s.l).s.toArray⟩, .int .i64 (hdT s.l).at_] 150) _ h1.lt).trans hbk
      obtain ⟨-, c1, -, -, -, -, fz⟩ := prCell hbk2
      have hn := h1.next hbk hm hl hlt
      exact ⟨p, hn.below ((Below.refl _ _).alloc (Nat.le_refl _) _), c1, fz 1, IntWalk.i64_in _ (by omega), h1.lt⟩
    clear hk hk5 h
    generalize hdT s.l = t at *
    go_enter Tryz.func188, Tryz.ntmps188
    go_wp2_with fail
    refine HT.mono ?_
    rintro e w1 ⟨rfl, hb⟩
    obtain ⟨p, hn, c1, fz, hw, hRl⟩ := F w1 hb
    have HB := Lib.hid hb
    have HN := Lib.hid hn
    clear hb hn F HH
    go_wp2_with fail
    go_ret
    rw [HM.out]
    exact ⟨rfl, (⟨HN.out.1, (Aw.of HB.out).trans (HN.out.2.mono HB.out.size)⟩ : Pw c k (tlM s) w _)⟩
  · rw [if_neg hk] at HM
    have hne : (((hdT s.l).k : Int) != 1) = true := by simp; omega
    have F : ∀ w1, Below w.heap.size w w1 → ∀ o, Calls Tryz.prog 242 #[.pointer (some ⟨c.R, 0, none⟩), .int .i64 2] (w1.alloc o) fun x w' => x = .returned (.tuple #[]) ∧ Pw c k (failM c.z 2 s) (w1.alloc o) w' :=
      fun w1 hb o => pFail_any 2 _ ((h.below hb h.hN).alloc o)
    clear hk h
    generalize hdT s.l = t at *
    go_enter Tryz.func188, Tryz.ntmps188
    go_wp2_with fail
    refine HT.mono ?_
    rintro e w1 ⟨rfl, hb⟩
    have FF := F w1 hb (.cells #[.int .i64 t.k, .string ⟨t.s.toArray⟩, .int .i64 t.at_] 150)
    clear F
    go_wp2_with fail
    refine FF.mono ?_
    rintro e w2 ⟨rfl, hp2⟩
    have HX := Lib.hid ((Pw.refl HH.out).below (hb.alloc hb.size (.cells #[.int .i64 t.k, .string ⟨t.s.toArray⟩, .int .i64 t.at_] 150)) |>.trans hp2)
    clear hp2 FF hb
    go_wp2_with fail
    go_ret
    rw [HM.out]
    exact ⟨rfl, HX.out⟩

set_option maxHeartbeats 2000000 in
set_option maxRecDepth 100000 in
theorem pNmOr_any {c : Cx} {k : Nat} {s : Ms} (w : World) (h : Pv c k s w) : Calls Tryz.prog 248 #[.pointer (some ⟨c.R, 0, none⟩)] w fun e w' => e = .returned (.string ⟨(nnM c.z s).1.toArray⟩) ∧ Pw c k (nnM c.z s).2 w w' := by
  have HT := pName_any w h
  have HM := Lib.hid (show nnM c.z s = if (hdT s.l).k = 1 then nmM c.z s else ([], s) from rfl)
  have HH := Lib.hid h
  by_cases hk : (hdT s.l).k = 1
  · rw [if_pos hk] at HM
    rw [show ((hdT s.l).k == 1) = true by simpa using hk] at HT
    clear hk
    go_enter Tryz.func248, Tryz.ntmps248
    go_wp2_with fail
    refine HT.mono ?_
    rintro e w1 ⟨rfl, hb⟩
    have HN := pNm_any w1 (h.below hb h.hN)
    clear h
    go_wp2_with fail
    refine HN.mono ?_
    rintro e w2 ⟨rfl, hp⟩
    go_wp2_with fail
    go_ret
    rw [HM.out]
    exact ⟨rfl, ((Pw.refl HH.out).below hb).trans hp⟩
  · rw [if_neg hk] at HM
    rw [show ((hdT s.l).k == 1) = false by simpa using hk] at HT
    clear hk h
    go_enter Tryz.func248, Tryz.ntmps248
    go_wp2_with fail
    refine HT.mono ?_
    rintro e w1 ⟨rfl, hb⟩
    go_wp2_with fail
    go_ret
    rw [HM.out]
    exact ⟨rfl, (Pw.refl HH.out).below hb⟩

end Go.Proofs.YtkfllppggjhhmaaGreatDoor
/-
  doc's parser: a struct that a function builds in a block of its own, beside the box of its result.
-/
namespace Go.Proofs.YtkfllppggjhhmaaGreatDoor
open Go.RowKit

theorem blk2 {W : World} {g : Nat} {c0 c1 : Value} {T : TypeId} (h : W.heap[g]? = some (.cells #[c0, c1] T (0, 0))) : W.cell? ⟨g, 0, none⟩ = some c0 ∧ W.cell? ⟨g, 1, none⟩ = some c1 ∧ (∀ j, W.frozen? ⟨g, j, none⟩ = false) ∧ g < W.heap.size :=
  ⟨Lib.cell_of_heap h 0, Lib.cell_of_heap h 1, fun j => by simp [World.frozen?, h], (Array.getElem?_eq_some_iff.1 h).1⟩
theorem blk4 {W : World} {g : Nat} {c0 c1 c2 c3 : Value} {T : TypeId} (h : W.heap[g]? = some (.cells #[c0, c1, c2, c3] T (0, 0))) : W.cell? ⟨g, 0, none⟩ = some c0 ∧ W.cell? ⟨g, 1, none⟩ = some c1 ∧ W.cell? ⟨g, 2, none⟩ = some c2 ∧ W.cell? ⟨g, 3, none⟩ = some c3 ∧ (∀ j, W.frozen? ⟨g, j, none⟩ = false) ∧ g < W.heap.size :=
  ⟨Lib.cell_of_heap h 0, Lib.cell_of_heap h 1, Lib.cell_of_heap h 2, Lib.cell_of_heap h 3, fun j => by simp [World.frozen?, h], (Array.getElem?_eq_some_iff.1 h).1⟩
theorem blk5 {W : World} {g : Nat} {c0 c1 c2 c3 c4 : Value} {T : TypeId} (h : W.heap[g]? = some (.cells #[c0, c1, c2, c3, c4] T (0, 0))) : W.cell? ⟨g, 0, none⟩ = some c0 ∧ W.cell? ⟨g, 1, none⟩ = some c1 ∧ W.cell? ⟨g, 2, none⟩ = some c2 ∧ W.cell? ⟨g, 3, none⟩ = some c3 ∧ W.cell? ⟨g, 4, none⟩ = some c4 ∧ (∀ j, W.frozen? ⟨g, j, none⟩ = false) ∧ g < W.heap.size :=
  ⟨Lib.cell_of_heap h 0, Lib.cell_of_heap h 1, Lib.cell_of_heap h 2, Lib.cell_of_heap h 3, Lib.cell_of_heap h 4, fun j => by simp [World.frozen?, h], (Array.getElem?_eq_some_iff.1 h).1⟩
theorem blk7 {W : World} {g : Nat} {c0 c1 c2 c3 c4 c5 c6 : Value} {T : TypeId} (h : W.heap[g]? = some (.cells #[c0, c1, c2, c3, c4, c5, c6] T (0, 0))) :
    W.cell? ⟨g, 0, none⟩ = some c0 ∧ W.cell? ⟨g, 1, none⟩ = some c1 ∧ W.cell? ⟨g, 2, none⟩ = some c2 ∧ W.cell? ⟨g, 3, none⟩ = some c3 ∧ W.cell? ⟨g, 4, none⟩ = some c4 ∧ W.cell? ⟨g, 5, none⟩ = some c5 ∧ W.cell? ⟨g, 6, none⟩ = some c6 ∧ (∀ j, W.frozen? ⟨g, j, none⟩ = false) ∧ g < W.heap.size :=
  ⟨Lib.cell_of_heap h 0, Lib.cell_of_heap h 1, Lib.cell_of_heap h 2, Lib.cell_of_heap h 3, Lib.cell_of_heap h 4, Lib.cell_of_heap h 5, Lib.cell_of_heap h 6, fun j => by simp [World.frozen?, h], (Array.getElem?_eq_some_iff.1 h).1⟩

/-- What was made since the boxes were laid stays. -/
structure Keeps (w W W' : World) : Prop where
  size : W.heap.size ≤ W'.heap.size
  heap : ∀ b, w.heap.size + 2 ≤ b → b < W.heap.size → W'.heap[b]? = W.heap[b]?
theorem Keeps.refl (w W : World) : Keeps w W W := ⟨Nat.le_refl _, fun _ _ _ => rfl⟩
theorem Keeps.trans {w a b d : World} (h : Keeps w a b) (k : Keeps w b d) : Keeps w a d := ⟨Nat.le_trans h.size k.size, fun x h1 h2 => (k.heap x h1 (by have := h.size; omega)).trans (h.heap x h1 h2)⟩
theorem Keeps.set {w W : World} {q : Addr} (hq : q.block < w.heap.size + 2) (v : Value) : Keeps w W (W.setCell q v) := ⟨by simp [World.setCell], fun b hb _ => Below.heap_setCell _ _ _ _ (by omega)⟩
theorem Keeps.below {w W W' : World} (h : Below W.heap.size W W') : Keeps w W W' := ⟨h.size, fun b _ hb => h.block b hb⟩
def Dn (w W : World) (b : Nat) : Prop := w.heap.size + 2 ≤ b ∧ b < W.heap.size
theorem Keeps.cell {w W W' : World} (h : Keeps w W W') : ∀ b o, Dn w W b → W'.cell? ⟨b, o, none⟩ = W.cell? ⟨b, o, none⟩ := fun b o hd => World.cell?_of_block (a := ⟨b, o, none⟩) (h.heap b hd.1 hd.2)
theorem Keeps.dn {w W W' : World} (h : Keeps w W W') : ∀ b, Dn w W b → Dn w W' b := fun _ hd => ⟨hd.1, Nat.lt_of_lt_of_le hd.2 h.size⟩
theorem Keeps.row {α : Type} {E : ElemR α} {sz : Nat} (hE : ElemOk E sz) {w W W' : World} (h : Keeps w W W') {xs : List α} {v : Value} (hr : RowD E sz W (Dn w W) xs v) : RowD E sz W' (Dn w W') xs v := RowD.step hE h.dn h.cell hr
theorem Keeps.rd {w W W' : World} (h : Keeps w W W') {n : Nat} {x : JV} {v : Value} (hr : RdD W (Dn w W) n x v) : RdD W' (Dn w W') n x v := RdD.step h.dn h.cell hr

/-- The box of the result lies in block w.heap.size, the struct in the next one. -/
structure Lo (c : Cx) (k : Nat) (w : World) (T : TypeId) (b0 b1 : Array Value) (s : Ms) (W : World) : Prop where
  p : Pw c k s w W
  h0 : W.heap[w.heap.size]? = some (.cells b0 T (0, 0))
  h1 : W.heap[w.heap.size + 1]? = some (.cells b1 T (0, 0))
  hN : c.N ≤ w.heap.size
theorem Lo.sz {c : Cx} {k : Nat} {w : World} {T : TypeId} {b0 b1 : Array Value} {s : Ms} {W : World} (h : Lo c k w T b0 b1 s W) : w.heap.size + 2 ≤ W.heap.size := by
  have := (Array.getElem?_eq_some_iff.1 h.h1).1
  omega
theorem Pw.set {c : Cx} {k : Nat} {s : Ms} {w W : World} (h : Pw c k s w W) (hN : c.N ≤ w.heap.size) {q : Addr} (hq : w.heap.size ≤ q.block) (v : Value) : Pw c k s w (W.setCell q v) := ⟨h.1.set (Nat.le_trans hN hq) v, h.2.setNew hq v⟩
theorem Lo.new {c : Cx} {k : Nat} {s : Ms} {w : World} (h : Pv c k s w) (T : TypeId) (b0 b1 : Array Value) : Lo c k w T b0 b1 s ((w.alloc (.cells b0 T (0, 0))).alloc (.cells b1 T (0, 0))) := by
  refine ⟨.of h (((Below.refl _ w).alloc (Nat.le_refl _) _).alloc (by simp) _), ?_, ?_, h.hN⟩
  · rw [Below.heap_alloc _ _ _ (by simp)]; exact heap_alloc_new _ _
  · have := heap_alloc_new (w.alloc (.cells b0 T (0, 0))) (.cells b1 T (0, 0))
    rwa [show (w.alloc (.cells b0 T (0, 0))).heap.size = w.heap.size + 1 by simp] at this
/-- A call of the parser's. -/
theorem Lo.call {c : Cx} {k k' : Nat} {w : World} {T : TypeId} {b0 b1 : Array Value} {s s' : Ms} {W W' : World} (h : Lo c k w T b0 b1 s W) (hp : Pw c k' s' W W') : Lo c k' w T b0 b1 s' W' ∧ Keeps w W W' := by
  have hs := h.sz
  have hR := h.p.1.hR
  have hN := h.hN
  exact ⟨⟨h.p.trans hp, (hp.2.block _ (by omega) (by omega)).trans h.h0, (hp.2.block _ (by omega) (by omega)).trans h.h1, h.hN⟩, ⟨hp.2.size, fun b hb hl => hp.2.block b hl (by omega)⟩⟩
theorem Lo.below {c : Cx} {k : Nat} {w : World} {T : TypeId} {b0 b1 : Array Value} {s : Ms} {W W' : World} (h : Lo c k w T b0 b1 s W) (hb : Below W.heap.size W W') : Lo c k w T b0 b1 s W' ∧ Keeps w W W' :=
  h.call (.of h.p.1 hb)
/-- A store into the struct. -/
theorem Lo.set {c : Cx} {k : Nat} {w : World} {T : TypeId} {b0 b1 : Array Value} {s : Ms} {W : World} (h : Lo c k w T b0 b1 s W) (i : Nat) (v : Value) : Lo c k w T b0 (b1.setIfInBounds i v) s (W.setCell ⟨w.heap.size + 1, i, none⟩ v) ∧ Keeps w W (W.setCell ⟨w.heap.size + 1, i, none⟩ v) :=
  ⟨⟨h.p.set h.hN (by show _ ≤ w.heap.size + 1; omega) v, (Below.heap_setCell _ _ _ _ (by show w.heap.size ≠ w.heap.size + 1; omega)).trans h.h0, Lib.heap_setCell_same h.h1 v, h.hN⟩, .set (by show w.heap.size + 1 < _; omega) v⟩
/-- A store into the box. -/
theorem Lo.fin {c : Cx} {k : Nat} {w : World} {T : TypeId} {b0 b1 : Array Value} {s : Ms} {W : World} (h : Lo c k w T b0 b1 s W) (i : Nat) (v : Value) : Lo c k w T (b0.setIfInBounds i v) b1 s (W.setCell ⟨w.heap.size, i, none⟩ v) ∧ Keeps w W (W.setCell ⟨w.heap.size, i, none⟩ v) :=
  ⟨⟨h.p.set h.hN (Nat.le_refl _) v, Lib.heap_setCell_same h.h0 v, (Below.heap_setCell _ _ _ _ (by show w.heap.size + 1 ≠ w.heap.size; omega)).trans h.h1, h.hN⟩, .set (by show w.heap.size < _; omega) v⟩

/-- What was read out of a call's new blocks. -/
theorem dn_of {c : Cx} {k : Nat} {w : World} {T : TypeId} {b0 b1 : Array Value} {s : Ms} {W W' : World} (h : Lo c k w T b0 b1 s W) : ∀ b, (W.heap.size ≤ b ∧ b < W'.heap.size) → Dn w W' b := fun _ hd => ⟨Nat.le_trans h.sz hd.1, hd.2⟩
theorem dn_fin {w W : World} : ∀ b, Dn w W b → w.heap.size ≤ b ∧ b < W.heap.size := fun _ hd => ⟨by have := hd.1; omega, hd.2⟩

/-- A call that answers a record. -/
def RecAns {α : Type} (E : ElemR α) (c : Cx) (k : Nat) (w : World) (r : α × Ms) (e : Ending) (w' : World) : Prop :=
  ∃ cs : List Value, e = .returned (.agg cs.toArray) ∧ E w' (fun b => w.heap.size ≤ b ∧ b < w'.heap.size) r.1 cs ∧ Pw c k r.2 w w'
/-- A call that answers a slice of records. -/
def RowAns {α : Type} (E : ElemR α) (sz : Nat) (c : Cx) (k : Nat) (w : World) (r : List α × Ms) (e : Ending) (w' : World) : Prop :=
  ∃ v, e = .returned v ∧ RowD E sz w' (fun b => w.heap.size ≤ b ∧ b < w'.heap.size) r.1 v ∧ Pw c k r.2 w w'
/-- A call that answers a value. -/
def ValueAns (c : Cx) (k : Nat) (w : World) (r : JV × Ms) (e : Ending) (w' : World) : Prop :=
  ∃ kk ss an ln cn ap lp cp, e = .returned (.agg #[.int .i64 kk, .string ss, .slice an ln cn, .slice ap lp cp]) ∧ RdD w' (fun b => w.heap.size ≤ b ∧ b < w'.heap.size) 13 r.1 (.agg #[.int .i64 kk, .string ss, .slice an ln cn, .slice ap lp cp]) ∧ Pw c k r.2 w w'

end Go.Proofs.YtkfllppggjhhmaaGreatDoor
/-
  doc's parser: Type and Value, asked of its tokens.
-/
namespace Go.Proofs.YtkfllppggjhhmaaGreatDoor
open Go.RowKit

theorem tkCells_take (ts : List Tk) (m j : Nat) (u : Value) (h : (tkCells (ts.take m))[j]? = some u) : (tkCells ts)[j]? = some u := by
  have e : tkCells ts = tkCells (ts.take m) ++ tkCells (ts.drop m) := by
    unfold tkCells
    rw [← List.flatMap_append, List.take_append_drop]
  rw [e, List.getElem?_append_left (List.getElem?_eq_some_iff.1 h).1]
  exact h
theorem Pv.tkAt {c : Cx} {k : Nat} {s : Ms} {w : World} (h : Pv c k s w) (m : Nat) : TkAt w c.a (c.ts.take m) := fun h0 => by
  obtain ⟨g, e, _, _, hc⟩ := h.tk (by rw [List.length_take] at h0; omega)
  exact ⟨g, e, fun j u hj => hc j u (tkCells_take _ _ _ _ hj)⟩
theorem take_len {ts : List Tk} {m : Nat} (hm : m ≤ ts.length) : (ts.take m).length = m := by rw [List.length_take]; omega
theorem ahead_take (ts : List Tk) (m p : Nat) : ahead (ts.take m) p = ((ts.take m).drop p).map strip := rfl

/-- Type, asked of the tokens up to m. -/
theorem vtype_at {c : Cx} {k : Nat} {s : Ms} (W : World) (h : Pv c k s W) {m p : Nat} (hp : p ≤ m) (hm : m ≤ c.ts.length) (hl : (c.ts.take m).drop p = s.l) :
    Calls Tryz.prog 304 #[.slice c.a m c.cap, .int .i64 (p : Int)] W (TyAnsP p m W (typeP (s.l.map strip))) := by
  have H := valType_at (p := p) (a := c.a) (cap := c.cap) (ts := c.ts.take m) W (by rw [take_len hm]; exact hp) (h.tkAt m) (by rw [take_len hm]; exact Nat.le_trans hm h.hc) (by rw [take_len hm]; have := h.hs; omega) (fun t ht => h.sz t (List.mem_of_mem_take ht))
  rw [take_len hm, ahead_take, hl] at H
  exact H
theorem vvalue_at {c : Cx} {k : Nat} {s : Ms} (W : World) (h : Pv c k s W) {m p : Nat} (hp : p ≤ m) (hm : m ≤ c.ts.length) :
    Calls Tryz.prog 319 #[.slice c.a m c.cap, .int .i64 (p : Int)] W (ValAns m W (pvT 12 (((c.ts.take m).drop p).map strip))) := by
  have H := valValue_at (p := p) (a := c.a) (cap := c.cap) (ts := c.ts.take m) W (by rw [take_len hm]; exact hp) (h.tkAt m) (by rw [take_len hm]; exact Nat.le_trans hm h.hc) (by rw [take_len hm]; have := h.hs; omega) (fun t ht => h.sz t (List.mem_of_mem_take ht))
  rw [take_len hm, ahead_take] at H
  exact H

/-- The parser, gone on to place q. -/
theorem Pv.goTo {c : Cx} {k : Nat} {s : Ms} {w : World} (h : Pv c k s w) {m p q : Nat} (hbk : w.heap[c.R]? = some (prCells c k m p s.er s.wr)) (hm : m ≤ c.ts.length) (hl : (c.ts.take m).drop p = s.l) (hp : p ≤ q) (hq : q ≤ m) :
    Pw c k ⟨s.l.drop (q - p), s.er, s.wr⟩ w (w.setCell ⟨c.R, 1, none⟩ (.int .i64 (q : Int))) := by
  refine ⟨h.turn (m := m) (p := q) ?_ hq hm ?_ (fun he => ?_) h.hk (fun b _ hb => Below.heap_setCell _ _ _ _ hb) (by simpa [World.setCell] using h.hN), (Aw.refl _ _ _).set _⟩
  · rw [Lib.heap_setCell_same hbk]; rfl
  · show _ = s.l.drop (q - p)
    rw [← hl, List.drop_drop, show p + (q - p) = q by omega]
  · show s.l.drop (q - p) = []
    rw [h.bad he, List.drop_nil]

theorem Pv.drew {c : Cx} {k : Nat} {s : Ms} {w : World} (h : Pv c k s w) : Pv c k s w.drew := h.keep (fun _ _ => rfl) h.hN

end Go.Proofs.YtkfllppggjhhmaaGreatDoor
