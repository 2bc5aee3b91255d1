/-
  What jval.writeValue, writeParts and Text write.
-/
import Derived.Test.YthmoadkkadlefaaDoorChk
import Derived.Test.YthmoadkkadlefaaDoorQuote2
namespace Go.Proofs.YthmoadkkadlefaaDoor
open Go.RowKit
set_option linter.unusedSimpArgs false

theorem only_below {w w' : World} (h : Below w.heap.size w w') (row : Option Nat) : w.grownBy w' row := ⟨h.os, h.tape, h.output, h.size, fun i hi _ => h.block i hi⟩

theorem BldAt.below {T : TypeId} {B b : Nat} {p : Value} {rest bs : List Value} {w w' : World} (h : BldAt T B b p rest bs w) (hb : Below w.heap.size w w') : BldAt T B b p rest bs w' := by
  have hlt := h.lt
  obtain ⟨hB, v, hbk, hown, hne⟩ := h
  exact ⟨hB, v, (hb.block b hlt).trans hbk, hown.kept (only_below hb none) (by cases hv : v.ownBlock <;> simp), hne⟩
theorem Bld.below {T : TypeId} {B b : Nat} {rest bs : List Value} {w w' : World} (h : Bld T B b rest bs w) (hb : Below w.heap.size w w') : Bld T B b rest bs w' :=
  h.elim (fun x => .inl (x.below hb)) (fun x => .inr (x.below hb))
theorem kept_below {e : TypeId} {b : Option Nat} {w w' : World} (hb : Below w.heap.size w w') : Lib.OthersKept e b w w' := fun k o hk _ _ => by
  have hlt : k < w.heap.size := (Array.getElem?_eq_some_iff.1 hk).1
  exact (hb.block k hlt).trans hk

def nullL : List UInt8 := [110, 117, 108, 108]
/-- Parts, with names or without. -/
def pts (f : JV → List UInt8) (ob : Bool) : Bool → List ByteArray → List JV → List UInt8
  | _, _, [] => []
  | fst, ns, p :: r => (if fst then [] else [44]) ++ ((if ob then quoteB (vbl (ns.headD ⟨#[]⟩)) ++ [58] else []) ++ (f p ++ pts f ob false ns.tail r))
/-- A value's text. -/
def txt : Nat → JV → List UInt8
  | 0, _ => []
  | m + 1, x => if x.k = 1 then nullL else if x.k = 5 then quoteB (vbl x.s) else if x.k = 7 then [91] ++ (pts (txt m) false true x.ns x.ps ++ [93]) else if x.k = 8 then [123] ++ (pts (txt m) true true x.ns x.ps ++ [125]) else vbl x.s

def Wrote (B b : Nat) (l : List UInt8) (w : World) (e : Ending) (w' : World) : Prop :=
  e = .returned (.tuple #[]) ∧ Bld 53 B b [] (Lib.byteCells l) w' ∧ Below B w w' ∧ Lib.OthersKept 5 (some b) w w'

theorem byte_app (a b : List UInt8) : Lib.byteCells (a ++ b) = Lib.byteCells a ++ Lib.byteCells b := by simp [Lib.byteCells]
theorem byte_str (s : ByteArray) : Lib.strCells s = Lib.byteCells (vbl s) := by simp [Lib.strCells, Lib.byteCells, vbl]
theorem byte_one (c : UInt8) : [Value.int .u8 c.toNat] = Lib.byteCells [c] := by simp [Lib.byteCells]

/-- The builder's two writers, in bytes. -/
theorem wByte {B b : Nat} {l : List UInt8} {w : World} (c : UInt8) (z : Int) (hz : (c.toNat : Int) = z) (h : Bld 53 B b [] (Lib.byteCells l) w) (hlen : l.length + 1 ≤ 140737488355328) (hBw : B ≤ w.heap.size) :
    Calls Tryd.prog 46 #[.pointer (some ⟨b, 0, none⟩), .int .u8 z] w fun e w' => e = .returned .nilIface ∧ (Bld 53 B b [] (Lib.byteCells (l ++ [c])) w' ∧ Below B w w' ∧ Lib.OthersKept 5 (some b) w w') := by
  subst hz
  refine (writeByte_any c.toNat Fit.plain h (by rw [Lib.byteCells_length]; exact hlen) hBw).mono ?_
  rintro e w' ⟨he, h1, h2, h3⟩
  exact ⟨he, by rw [byte_app, ← byte_one]; exact h1, h2, h3⟩
theorem wStr {B b : Nat} {l : List UInt8} {w : World} (s : ByteArray) (h : Bld 53 B b [] (Lib.byteCells l) w) (hlen : l.length + (vbl s).length ≤ 140737488355328) (hBw : B ≤ w.heap.size) :
    Calls Tryd.prog 44 #[.pointer (some ⟨b, 0, none⟩), .string s] w fun e w' => e = .returned (.tuple #[.int .i64 s.size, .nilIface]) ∧ (Bld 53 B b [] (Lib.byteCells (l ++ vbl s)) w' ∧ Below B w w' ∧ Lib.OthersKept 5 (some b) w w') := by
  refine (writeString_any s Fit.plain h (by rw [Lib.byteCells_length]; exact hlen) hBw).mono ?_
  rintro e w' ⟨he, h1, h2, h3⟩
  exact ⟨he, by rw [byte_app, ← byte_str]; exact h1, h2, h3⟩

theorem pts_step (f : JV → List UInt8) (ob : Bool) (ns : List ByteArray) (ps : List JV) (k : Nat) (h : k < ps.length) :
    pts f ob (k == 0) (ns.drop k) (ps.drop k) = (if k == 0 then [] else [44]) ++ ((if ob then quoteB (vbl ((ns.drop k).headD ⟨#[]⟩)) ++ [58] else []) ++ (f ps[k] ++ pts f ob false (ns.drop (k + 1)) (ps.drop (k + 1)))) := by
  rw [List.drop_eq_getElem_cons h]
  conv => lhs; unfold pts
  rw [List.tail_drop]

def PartsRel (B b kb : Nat) (T : List UInt8) (f : JV → List UInt8) (ob : Bool) (x : JV) (an : Option Addr) (cn : Nat) (ap : Option Addr) (cp : Nat) (bs : List UInt8) (w : World) (i : Value) (wr : World) : Prop :=
  ∃ (k : Nat) (acc : List UInt8), k ≤ x.ps.length ∧ i = .int .i64 k ∧ Bld 53 B b [] (Lib.byteCells (bs ++ acc)) wr ∧ Below B w wr ∧ Lib.OthersKept 5 (some b) w wr ∧
    wr.heap[kb]? = some (.cells #[.int .i64 x.k, .string x.s, .slice an x.ns.length cn, .slice ap x.ps.length cp] 25 (0, 0)) ∧ T = acc ++ pts f ob (k == 0) (x.ns.drop k) (x.ps.drop k)

/-- The state inside a round: the builder, the value's box, the element's box. -/
structure StT (B b kb ke : Nat) (bx ex : Array Value) (l : List UInt8) (wr W : World) : Prop where
  bld : Bld 53 B b [] (Lib.byteCells l) W
  bel : Below B wr W
  kep : Lib.OthersKept 5 (some b) wr W
  box : W.heap[kb]? = some (.cells bx 25 (0, 0))
  el : W.heap[ke]? = some (.cells ex 25 (0, 0))
  le : B ≤ W.heap.size

theorem cells_ne (bx : Array Value) : ∀ c fz, (Obj.cells bx 25 (0, 0)) ≠ .cells c 5 fz := by
  intro c fz h
  injection h with _ h
  exact absurd h (by decide)

theorem StT.write {B b kb ke : Nat} {bx ex : Array Value} {l l' : List UInt8} {wr W W' : World} (h : StT B b kb ke bx ex l wr W) (hkb : kb ≠ b) (hke : ke ≠ b)
    (h1 : Bld 53 B b [] (Lib.byteCells l') W') (h2 : Below B W W') (h3 : Lib.OthersKept 5 (some b) W W') : StT B b kb ke bx ex l' wr W' :=
  ⟨h1, h.bel.trans h2, h.kep.trans h3, h3 kb _ h.box (by simpa using hkb) (cells_ne bx), h3 ke _ h.el (by simpa using hke) (cells_ne ex), Nat.le_trans h.le h2.size⟩
theorem StT.below {B b kb ke : Nat} {bx ex : Array Value} {l : List UInt8} {wr W W' : World} (h : StT B b kb ke bx ex l wr W) (hb : Below W.heap.size W W') : StT B b kb ke bx ex l wr W' :=
  ⟨h.bld.below hb, h.bel.trans (hb.mono h.le), h.kep.trans (kept_below hb), (hb.block kb (Array.getElem?_eq_some_iff.1 h.box).1).trans h.box, (hb.block ke (Array.getElem?_eq_some_iff.1 h.el).1).trans h.el, Nat.le_trans h.le hb.size⟩
theorem StT.bcell {B b kb ke : Nat} {bx ex : Array Value} {l : List UInt8} {wr W : World} (h : StT B b kb ke bx ex l wr W) (j : Nat) : W.cell? ⟨kb, j, none⟩ = bx[j]? := Lib.cell_of_heap h.box j
theorem StT.ecell {B b kb ke : Nat} {bx ex : Array Value} {l : List UInt8} {wr W : World} (h : StT B b kb ke bx ex l wr W) (j : Nat) : W.cell? ⟨ke, j, none⟩ = ex[j]? := Lib.cell_of_heap h.el j

/-- What writeValue does at values of at most m levels. -/
def WVal (m : Nat) : Prop := ∀ (n : Nat) (x : JV) (v : Value) (w : World) (B b : Nat) (bs : List UInt8), Rd w B n x v → chkAt m x = true → Bld 53 B b [] (Lib.byteCells bs) w → bs.length + (txt m x).length ≤ 140737488355328 → B ≤ w.heap.size →
    Calls Tryd.prog 31 #[.pointer (some ⟨b, 0, none⟩), v] w (Wrote B b (bs ++ txt m x) w)

theorem head_drop (ns : List ByteArray) (k : Nat) (h : k < ns.length) : (ns.drop k).headD ⟨#[]⟩ = ns[k] := by
  rw [List.drop_eq_getElem_cons h]; rfl

set_option maxHeartbeats 2000000 in
set_option maxRecDepth 100000 in
theorem writeParts_any (m : Nat) (ih : WVal m) (ob : Bool) (n : Nat) (x : JV) (v : Value) (w : World) (B b : Nat) (bs : List UInt8) (h : Rd w B (n + 1) x v) (hob : (x.k == 8) = ob) (hns : ob = true → x.ns.length = x.ps.length) (hall : x.ps.all (chkAt m) = true)
    (hbld : Bld 53 B b [] (Lib.byteCells bs) w) (hlen : bs.length + (pts (txt m) ob true x.ns x.ps).length ≤ 140737488355328) (hB : B ≤ w.heap.size) :
    Calls Tryd.prog 47 #[.pointer (some ⟨b, 0, none⟩), v] w (Wrote B b (bs ++ pts (txt m) ob true x.ns x.ps) w) := by
  obtain ⟨an, cn, ap, cp, rfl, ⟨z1, z2, z3, z4, z5⟩, hs, hr⟩ := h
  generalize hT : pts (txt m) ob true x.ns x.ps = T at *
  have HT := Lib.hid hT
  have HALL := Lib.hid hall
  have HNS := Lib.hid hns
  have hbl := hbld.lt
  clear hT hall hns
  go_enter Tryd.func47, Tryd.ntmps47
  go_wp2_with fail
  go_loopw [9] (fun i wr => PartsRel B b w.heap.size T (txt m) ob x an cn ap cp bs w i wr) (fun i _ => x.ps.length - (intOf i).toNat)
  case atStart => exact ⟨0, [], Nat.zero_le _, rfl, by rw [List.append_nil]; exact hbld.alloc _, (Below.refl _ _).alloc hB _, (Lib.OthersKept.refl _ _ _).alloc _, heap_alloc_new _ _, HT.out.symm⟩
  case round =>
    obtain ⟨k, acc, hk, rfl, hb0, hbw, hkp, hbox, hacc⟩ := hrel
    have HACC := Lib.hid hacc
    clear hacc
    have hBr : B ≤ wr.heap.size := Nat.le_trans hB hbw.size
    by_cases hlt : k < x.ps.length
    · have HP := Lib.hid (pts_step (txt m) ob x.ns x.ps k hlt)
      have HC := Lib.hid (show chkAt m x.ps[k] = true from List.all_eq_true.1 HALL.out _ (List.getElem_mem hlt))
      obtain ⟨b', off, y, an', cn', ap', cp', HY, rfl, hb', hRr, g0, g1, g2, g3⟩ := hr.elem hlt hbw
      rw [HY.out] at HP HC
      clear HY
      have hke : wr.heap.size ≠ b := by have := hb0.lt; omega
      have hkb : w.heap.size ≠ b := by omega
      have st0 : StT B b w.heap.size wr.heap.size #[.int .i64 x.k, .string x.s, .slice an x.ns.length cn, .slice (some ⟨b', off, none⟩) x.ps.length cp] #[.int .i64 y.k, .string y.s, .slice an' y.ns.length cn', .slice ap' y.ps.length cp'] (bs ++ acc) wr (wr.alloc (.cells #[.int .i64 y.k, .string y.s, .slice an' y.ns.length cn', .slice ap' y.ps.length cp'] 25)) :=
        ⟨hb0.alloc _, (Below.refl _ _).alloc hBr _, (Lib.OthersKept.refl _ _ _).alloc _, (Below.heap_alloc _ _ _ (Array.getElem?_eq_some_iff.1 hbox).1).trans hbox, heap_alloc_new _ _, by simp; omega⟩
      clear hr hbox
      cases ob with
      | false =>
        by_cases hkz : k = 0
        · have hk1 : decide (0 < k) = false := by simp; omega
          have HKZ : Hid ((k == 0) = true) := Lib.hid (by simpa using hkz)
          clear hkz
          have hl := congrArg List.length HACC.out
          rw [HP.out] at hl
          simp only [List.length_append, List.length_cons, List.length_nil, beq_iff_eq, beq_self_eq_true, if_true, if_false, Bool.false_eq_true, reduceIte, HKZ.out] at hl
          have q00 : (wr.alloc (.cells #[.int .i64 y.k, .string y.s, .slice an' y.ns.length cn', .slice ap' y.ps.length cp'] 25)).cell? ⟨w.heap.size, 0, none⟩ = some (.int .i64 x.k) := (st0.bcell 0)
          have q20 : (wr.alloc (.cells #[.int .i64 y.k, .string y.s, .slice an' y.ns.length cn', .slice ap' y.ps.length cp'] 25)).cell? ⟨w.heap.size, 2, none⟩ = some (.slice an x.ns.length cn) := (st0.bcell 2)
          have r00 : (wr.alloc (.cells #[.int .i64 y.k, .string y.s, .slice an' y.ns.length cn', .slice ap' y.ps.length cp'] 25)).cell? ⟨wr.heap.size, 0, none⟩ = some (.int .i64 y.k) := (st0.ecell 0)
          have r10 : (wr.alloc (.cells #[.int .i64 y.k, .string y.s, .slice an' y.ns.length cn', .slice ap' y.ps.length cp'] 25)).cell? ⟨wr.heap.size, 1, none⟩ = some (.string y.s) := (st0.ecell 1)
          have r20 : (wr.alloc (.cells #[.int .i64 y.k, .string y.s, .slice an' y.ns.length cn', .slice ap' y.ps.length cp'] 25)).cell? ⟨wr.heap.size, 2, none⟩ = some (.slice an' y.ns.length cn') := (st0.ecell 2)
          have r30 : (wr.alloc (.cells #[.int .i64 y.k, .string y.s, .slice an' y.ns.length cn', .slice ap' y.ps.length cp'] 25)).cell? ⟨wr.heap.size, 3, none⟩ = some (.slice ap' y.ps.length cp') := (st0.ecell 3)
          clear hs
          go_wp2_with fail
          refine (ih n y _ _ B b _ (hRr.below st0.bel) HC.out st0.bld (by simp only [List.length_append, List.length_cons, List.length_nil, vbl] at hl ⊢; omega) st0.le).mono ?_
          rintro e w6 ⟨rfl, h1, h2, h3⟩
          have hB6 : Below B w w6 := hbw.trans (st0.bel.trans h2)
          have hK6 : Lib.OthersKept 5 (some b) w w6 := hkp.trans (st0.kep.trans h3)
          have hX6 := h3 _ _ st0.box (by simpa using hkb) (cells_ne _)
          go_wp2_with fail
          go_roundw
          case rel =>
            refine ⟨k + 1, acc ++ (txt m y), by omega, by go_num, ?_, hB6, hK6, hX6, ?_⟩
            · simpa only [List.append_assoc, vbl, toArray_list] using h1
            · rw [HACC.out, HP.out, HKZ.out]; simp [List.append_assoc]
          case measure => simp [intOf]; omega
        · have hk1 : decide (0 < k) = true := by simp; omega
          have HKZ : Hid ((k == 0) = false) := Lib.hid (by simpa using hkz)
          clear hkz
          have hl := congrArg List.length HACC.out
          rw [HP.out] at hl
          simp only [List.length_append, List.length_cons, List.length_nil, beq_iff_eq, beq_self_eq_true, if_true, if_false, Bool.false_eq_true, reduceIte, HKZ.out] at hl
          have q00 : (wr.alloc (.cells #[.int .i64 y.k, .string y.s, .slice an' y.ns.length cn', .slice ap' y.ps.length cp'] 25)).cell? ⟨w.heap.size, 0, none⟩ = some (.int .i64 x.k) := (st0.bcell 0)
          have q20 : (wr.alloc (.cells #[.int .i64 y.k, .string y.s, .slice an' y.ns.length cn', .slice ap' y.ps.length cp'] 25)).cell? ⟨w.heap.size, 2, none⟩ = some (.slice an x.ns.length cn) := (st0.bcell 2)
          have r00 : (wr.alloc (.cells #[.int .i64 y.k, .string y.s, .slice an' y.ns.length cn', .slice ap' y.ps.length cp'] 25)).cell? ⟨wr.heap.size, 0, none⟩ = some (.int .i64 y.k) := (st0.ecell 0)
          have r10 : (wr.alloc (.cells #[.int .i64 y.k, .string y.s, .slice an' y.ns.length cn', .slice ap' y.ps.length cp'] 25)).cell? ⟨wr.heap.size, 1, none⟩ = some (.string y.s) := (st0.ecell 1)
          have r20 : (wr.alloc (.cells #[.int .i64 y.k, .string y.s, .slice an' y.ns.length cn', .slice ap' y.ps.length cp'] 25)).cell? ⟨wr.heap.size, 2, none⟩ = some (.slice an' y.ns.length cn') := (st0.ecell 2)
          have r30 : (wr.alloc (.cells #[.int .i64 y.k, .string y.s, .slice an' y.ns.length cn', .slice ap' y.ps.length cp'] 25)).cell? ⟨wr.heap.size, 3, none⟩ = some (.slice ap' y.ps.length cp') := (st0.ecell 3)
          clear hs
          go_wp2_with fail
          refine (wByte 44 44 rfl st0.bld (by simp only [List.length_append, List.length_cons, List.length_nil, vbl] at hl ⊢; omega) st0.le).mono ?_
          rintro e w1 ⟨rfl, h1, h2, h3⟩
          have st1 := st0.write hkb hke h1 h2 h3
          clear h1 h2 h3
          have q01 : w1.cell? ⟨w.heap.size, 0, none⟩ = some (.int .i64 x.k) := (st1.bcell 0)
          have q21 : w1.cell? ⟨w.heap.size, 2, none⟩ = some (.slice an x.ns.length cn) := (st1.bcell 2)
          have r01 : w1.cell? ⟨wr.heap.size, 0, none⟩ = some (.int .i64 y.k) := (st1.ecell 0)
          have r11 : w1.cell? ⟨wr.heap.size, 1, none⟩ = some (.string y.s) := (st1.ecell 1)
          have r21 : w1.cell? ⟨wr.heap.size, 2, none⟩ = some (.slice an' y.ns.length cn') := (st1.ecell 2)
          have r31 : w1.cell? ⟨wr.heap.size, 3, none⟩ = some (.slice ap' y.ps.length cp') := (st1.ecell 3)
          go_wp2_with fail
          refine (ih n y _ _ B b _ (hRr.below st1.bel) HC.out st1.bld (by simp only [List.length_append, List.length_cons, List.length_nil, vbl] at hl ⊢; omega) st1.le).mono ?_
          rintro e w6 ⟨rfl, h1, h2, h3⟩
          have hB6 : Below B w w6 := hbw.trans (st1.bel.trans h2)
          have hK6 : Lib.OthersKept 5 (some b) w w6 := hkp.trans (st1.kep.trans h3)
          have hX6 := h3 _ _ st1.box (by simpa using hkb) (cells_ne _)
          go_wp2_with fail
          go_roundw
          case rel =>
            refine ⟨k + 1, acc ++ ([44] ++ txt m y), by omega, by go_num, ?_, hB6, hK6, hX6, ?_⟩
            · simpa only [List.append_assoc, vbl, toArray_list] using h1
            · rw [HACC.out, HP.out, HKZ.out]; simp [List.append_assoc]
          case measure => simp [intOf]; omega
      | true =>
        by_cases hkz : k = 0
        · have hk1 : decide (0 < k) = false := by simp; omega
          have HKZ : Hid ((k == 0) = true) := Lib.hid (by simpa using hkz)
          clear hkz
          have hl := congrArg List.length HACC.out
          rw [HP.out] at hl
          simp only [List.length_append, List.length_cons, List.length_nil, beq_iff_eq, beq_self_eq_true, if_true, if_false, Bool.false_eq_true, reduceIte, HKZ.out] at hl
          have hkn : k < x.ns.length := by have := HNS.out rfl; omega
          have HH := Lib.hid (head_drop x.ns k hkn)
          rw [HH.out] at hl HP
          obtain ⟨bn, on, rfl, hbn, hnz, hnc⟩ := hs.at_ hkn
          generalize hnm : x.ns[k] = nm at *
          clear hnm HH
          have q00 : (wr.alloc (.cells #[.int .i64 y.k, .string y.s, .slice an' y.ns.length cn', .slice ap' y.ps.length cp'] 25)).cell? ⟨w.heap.size, 0, none⟩ = some (.int .i64 x.k) := (st0.bcell 0)
          have q20 : (wr.alloc (.cells #[.int .i64 y.k, .string y.s, .slice an' y.ns.length cn', .slice ap' y.ps.length cp'] 25)).cell? ⟨w.heap.size, 2, none⟩ = some (.slice (some ⟨bn, on, none⟩) x.ns.length cn) := (st0.bcell 2)
          have r00 : (wr.alloc (.cells #[.int .i64 y.k, .string y.s, .slice an' y.ns.length cn', .slice ap' y.ps.length cp'] 25)).cell? ⟨wr.heap.size, 0, none⟩ = some (.int .i64 y.k) := (st0.ecell 0)
          have r10 : (wr.alloc (.cells #[.int .i64 y.k, .string y.s, .slice an' y.ns.length cn', .slice ap' y.ps.length cp'] 25)).cell? ⟨wr.heap.size, 1, none⟩ = some (.string y.s) := (st0.ecell 1)
          have r20 : (wr.alloc (.cells #[.int .i64 y.k, .string y.s, .slice an' y.ns.length cn', .slice ap' y.ps.length cp'] 25)).cell? ⟨wr.heap.size, 2, none⟩ = some (.slice an' y.ns.length cn') := (st0.ecell 2)
          have r30 : (wr.alloc (.cells #[.int .i64 y.k, .string y.s, .slice an' y.ns.length cn', .slice ap' y.ps.length cp'] 25)).cell? ⟨wr.heap.size, 3, none⟩ = some (.slice ap' y.ps.length cp') := (st0.ecell 3)
          clear hs
          have hnc0 : (wr.alloc (.cells #[.int .i64 y.k, .string y.s, .slice an' y.ns.length cn', .slice ap' y.ps.length cp'] 25)).cell? ⟨bn, on + k, none⟩ = some (.string nm) := ((hbw.trans st0.bel).cell (p := ⟨bn, on + k, none⟩) hbn).trans hnc
          go_wp2_with fail
          refine (quote_any nm _ (by omega)).mono ?_
          rintro e w2 ⟨rfl, h2⟩
          have st2 := st0.below h2
          clear h2
          have q02 : w2.cell? ⟨w.heap.size, 0, none⟩ = some (.int .i64 x.k) := (st2.bcell 0)
          have q22 : w2.cell? ⟨w.heap.size, 2, none⟩ = some (.slice (some ⟨bn, on, none⟩) x.ns.length cn) := (st2.bcell 2)
          have r02 : w2.cell? ⟨wr.heap.size, 0, none⟩ = some (.int .i64 y.k) := (st2.ecell 0)
          have r12 : w2.cell? ⟨wr.heap.size, 1, none⟩ = some (.string y.s) := (st2.ecell 1)
          have r22 : w2.cell? ⟨wr.heap.size, 2, none⟩ = some (.slice an' y.ns.length cn') := (st2.ecell 2)
          have r32 : w2.cell? ⟨wr.heap.size, 3, none⟩ = some (.slice ap' y.ps.length cp') := (st2.ecell 3)
          go_wp2_with fail
          refine (wStr _ st2.bld (by simp only [List.length_append, List.length_cons, List.length_nil, vbl] at hl ⊢; omega) st2.le).mono ?_
          rintro e w3 ⟨rfl, h1, h2, h3⟩
          have st3 := st2.write hkb hke h1 h2 h3
          clear h1 h2 h3
          have q03 : w3.cell? ⟨w.heap.size, 0, none⟩ = some (.int .i64 x.k) := (st3.bcell 0)
          have q23 : w3.cell? ⟨w.heap.size, 2, none⟩ = some (.slice (some ⟨bn, on, none⟩) x.ns.length cn) := (st3.bcell 2)
          have r03 : w3.cell? ⟨wr.heap.size, 0, none⟩ = some (.int .i64 y.k) := (st3.ecell 0)
          have r13 : w3.cell? ⟨wr.heap.size, 1, none⟩ = some (.string y.s) := (st3.ecell 1)
          have r23 : w3.cell? ⟨wr.heap.size, 2, none⟩ = some (.slice an' y.ns.length cn') := (st3.ecell 2)
          have r33 : w3.cell? ⟨wr.heap.size, 3, none⟩ = some (.slice ap' y.ps.length cp') := (st3.ecell 3)
          go_wp2_with fail
          refine (wByte 58 58 rfl st3.bld (by simp only [List.length_append, List.length_cons, List.length_nil, vbl] at hl ⊢; omega) st3.le).mono ?_
          rintro e w4 ⟨rfl, h1, h2, h3⟩
          have st4 := st3.write hkb hke h1 h2 h3
          clear h1 h2 h3
          have q04 : w4.cell? ⟨w.heap.size, 0, none⟩ = some (.int .i64 x.k) := (st4.bcell 0)
          have q24 : w4.cell? ⟨w.heap.size, 2, none⟩ = some (.slice (some ⟨bn, on, none⟩) x.ns.length cn) := (st4.bcell 2)
          have r04 : w4.cell? ⟨wr.heap.size, 0, none⟩ = some (.int .i64 y.k) := (st4.ecell 0)
          have r14 : w4.cell? ⟨wr.heap.size, 1, none⟩ = some (.string y.s) := (st4.ecell 1)
          have r24 : w4.cell? ⟨wr.heap.size, 2, none⟩ = some (.slice an' y.ns.length cn') := (st4.ecell 2)
          have r34 : w4.cell? ⟨wr.heap.size, 3, none⟩ = some (.slice ap' y.ps.length cp') := (st4.ecell 3)
          go_wp2_with fail
          refine (ih n y _ _ B b _ (hRr.below st4.bel) HC.out st4.bld (by simp only [List.length_append, List.length_cons, List.length_nil, vbl] at hl ⊢; omega) st4.le).mono ?_
          rintro e w6 ⟨rfl, h1, h2, h3⟩
          have hB6 : Below B w w6 := hbw.trans (st4.bel.trans h2)
          have hK6 : Lib.OthersKept 5 (some b) w w6 := hkp.trans (st4.kep.trans h3)
          have hX6 := h3 _ _ st4.box (by simpa using hkb) (cells_ne _)
          go_wp2_with fail
          go_roundw
          case rel =>
            refine ⟨k + 1, acc ++ ((quoteB (vbl nm) ++ [58] ++ txt m y)), by omega, by go_num, ?_, hB6, hK6, hX6, ?_⟩
            · simpa only [List.append_assoc, vbl, toArray_list] using h1
            · rw [HACC.out, HP.out, HKZ.out]; simp [List.append_assoc]
          case measure => simp [intOf]; omega
        · have hk1 : decide (0 < k) = true := by simp; omega
          have HKZ : Hid ((k == 0) = false) := Lib.hid (by simpa using hkz)
          clear hkz
          have hl := congrArg List.length HACC.out
          rw [HP.out] at hl
          simp only [List.length_append, List.length_cons, List.length_nil, beq_iff_eq, beq_self_eq_true, if_true, if_false, Bool.false_eq_true, reduceIte, HKZ.out] at hl
          have hkn : k < x.ns.length := by have := HNS.out rfl; omega
          have HH := Lib.hid (head_drop x.ns k hkn)
          rw [HH.out] at hl HP
          obtain ⟨bn, on, rfl, hbn, hnz, hnc⟩ := hs.at_ hkn
          generalize hnm : x.ns[k] = nm at *
          clear hnm HH
          have q00 : (wr.alloc (.cells #[.int .i64 y.k, .string y.s, .slice an' y.ns.length cn', .slice ap' y.ps.length cp'] 25)).cell? ⟨w.heap.size, 0, none⟩ = some (.int .i64 x.k) := (st0.bcell 0)
          have q20 : (wr.alloc (.cells #[.int .i64 y.k, .string y.s, .slice an' y.ns.length cn', .slice ap' y.ps.length cp'] 25)).cell? ⟨w.heap.size, 2, none⟩ = some (.slice (some ⟨bn, on, none⟩) x.ns.length cn) := (st0.bcell 2)
          have r00 : (wr.alloc (.cells #[.int .i64 y.k, .string y.s, .slice an' y.ns.length cn', .slice ap' y.ps.length cp'] 25)).cell? ⟨wr.heap.size, 0, none⟩ = some (.int .i64 y.k) := (st0.ecell 0)
          have r10 : (wr.alloc (.cells #[.int .i64 y.k, .string y.s, .slice an' y.ns.length cn', .slice ap' y.ps.length cp'] 25)).cell? ⟨wr.heap.size, 1, none⟩ = some (.string y.s) := (st0.ecell 1)
          have r20 : (wr.alloc (.cells #[.int .i64 y.k, .string y.s, .slice an' y.ns.length cn', .slice ap' y.ps.length cp'] 25)).cell? ⟨wr.heap.size, 2, none⟩ = some (.slice an' y.ns.length cn') := (st0.ecell 2)
          have r30 : (wr.alloc (.cells #[.int .i64 y.k, .string y.s, .slice an' y.ns.length cn', .slice ap' y.ps.length cp'] 25)).cell? ⟨wr.heap.size, 3, none⟩ = some (.slice ap' y.ps.length cp') := (st0.ecell 3)
          clear hs
          have hnc0 : (wr.alloc (.cells #[.int .i64 y.k, .string y.s, .slice an' y.ns.length cn', .slice ap' y.ps.length cp'] 25)).cell? ⟨bn, on + k, none⟩ = some (.string nm) := ((hbw.trans st0.bel).cell (p := ⟨bn, on + k, none⟩) hbn).trans hnc
          go_wp2_with fail
          refine (wByte 44 44 rfl st0.bld (by simp only [List.length_append, List.length_cons, List.length_nil, vbl] at hl ⊢; omega) st0.le).mono ?_
          rintro e w1 ⟨rfl, h1, h2, h3⟩
          have st1 := st0.write hkb hke h1 h2 h3
          clear h1 h2 h3
          have q01 : w1.cell? ⟨w.heap.size, 0, none⟩ = some (.int .i64 x.k) := (st1.bcell 0)
          have q21 : w1.cell? ⟨w.heap.size, 2, none⟩ = some (.slice (some ⟨bn, on, none⟩) x.ns.length cn) := (st1.bcell 2)
          have r01 : w1.cell? ⟨wr.heap.size, 0, none⟩ = some (.int .i64 y.k) := (st1.ecell 0)
          have r11 : w1.cell? ⟨wr.heap.size, 1, none⟩ = some (.string y.s) := (st1.ecell 1)
          have r21 : w1.cell? ⟨wr.heap.size, 2, none⟩ = some (.slice an' y.ns.length cn') := (st1.ecell 2)
          have r31 : w1.cell? ⟨wr.heap.size, 3, none⟩ = some (.slice ap' y.ps.length cp') := (st1.ecell 3)
          have hnc1 : w1.cell? ⟨bn, on + k, none⟩ = some (.string nm) := ((hbw.trans st1.bel).cell (p := ⟨bn, on + k, none⟩) hbn).trans hnc
          go_wp2_with fail
          refine (quote_any nm _ (by omega)).mono ?_
          rintro e w2 ⟨rfl, h2⟩
          have st2 := st1.below h2
          clear h2
          have q02 : w2.cell? ⟨w.heap.size, 0, none⟩ = some (.int .i64 x.k) := (st2.bcell 0)
          have q22 : w2.cell? ⟨w.heap.size, 2, none⟩ = some (.slice (some ⟨bn, on, none⟩) x.ns.length cn) := (st2.bcell 2)
          have r02 : w2.cell? ⟨wr.heap.size, 0, none⟩ = some (.int .i64 y.k) := (st2.ecell 0)
          have r12 : w2.cell? ⟨wr.heap.size, 1, none⟩ = some (.string y.s) := (st2.ecell 1)
          have r22 : w2.cell? ⟨wr.heap.size, 2, none⟩ = some (.slice an' y.ns.length cn') := (st2.ecell 2)
          have r32 : w2.cell? ⟨wr.heap.size, 3, none⟩ = some (.slice ap' y.ps.length cp') := (st2.ecell 3)
          go_wp2_with fail
          refine (wStr _ st2.bld (by simp only [List.length_append, List.length_cons, List.length_nil, vbl] at hl ⊢; omega) st2.le).mono ?_
          rintro e w3 ⟨rfl, h1, h2, h3⟩
          have st3 := st2.write hkb hke h1 h2 h3
          clear h1 h2 h3
          have q03 : w3.cell? ⟨w.heap.size, 0, none⟩ = some (.int .i64 x.k) := (st3.bcell 0)
          have q23 : w3.cell? ⟨w.heap.size, 2, none⟩ = some (.slice (some ⟨bn, on, none⟩) x.ns.length cn) := (st3.bcell 2)
          have r03 : w3.cell? ⟨wr.heap.size, 0, none⟩ = some (.int .i64 y.k) := (st3.ecell 0)
          have r13 : w3.cell? ⟨wr.heap.size, 1, none⟩ = some (.string y.s) := (st3.ecell 1)
          have r23 : w3.cell? ⟨wr.heap.size, 2, none⟩ = some (.slice an' y.ns.length cn') := (st3.ecell 2)
          have r33 : w3.cell? ⟨wr.heap.size, 3, none⟩ = some (.slice ap' y.ps.length cp') := (st3.ecell 3)
          go_wp2_with fail
          refine (wByte 58 58 rfl st3.bld (by simp only [List.length_append, List.length_cons, List.length_nil, vbl] at hl ⊢; omega) st3.le).mono ?_
          rintro e w4 ⟨rfl, h1, h2, h3⟩
          have st4 := st3.write hkb hke h1 h2 h3
          clear h1 h2 h3
          have q04 : w4.cell? ⟨w.heap.size, 0, none⟩ = some (.int .i64 x.k) := (st4.bcell 0)
          have q24 : w4.cell? ⟨w.heap.size, 2, none⟩ = some (.slice (some ⟨bn, on, none⟩) x.ns.length cn) := (st4.bcell 2)
          have r04 : w4.cell? ⟨wr.heap.size, 0, none⟩ = some (.int .i64 y.k) := (st4.ecell 0)
          have r14 : w4.cell? ⟨wr.heap.size, 1, none⟩ = some (.string y.s) := (st4.ecell 1)
          have r24 : w4.cell? ⟨wr.heap.size, 2, none⟩ = some (.slice an' y.ns.length cn') := (st4.ecell 2)
          have r34 : w4.cell? ⟨wr.heap.size, 3, none⟩ = some (.slice ap' y.ps.length cp') := (st4.ecell 3)
          go_wp2_with fail
          refine (ih n y _ _ B b _ (hRr.below st4.bel) HC.out st4.bld (by simp only [List.length_append, List.length_cons, List.length_nil, vbl] at hl ⊢; omega) st4.le).mono ?_
          rintro e w6 ⟨rfl, h1, h2, h3⟩
          have hB6 : Below B w w6 := hbw.trans (st4.bel.trans h2)
          have hK6 : Lib.OthersKept 5 (some b) w w6 := hkp.trans (st4.kep.trans h3)
          have hX6 := h3 _ _ st4.box (by simpa using hkb) (cells_ne _)
          go_wp2_with fail
          go_roundw
          case rel =>
            refine ⟨k + 1, acc ++ ([44] ++ (quoteB (vbl nm) ++ [58] ++ txt m y)), by omega, by go_num, ?_, hB6, hK6, hX6, ?_⟩
            · simpa only [List.append_assoc, vbl, toArray_list] using h1
            · rw [HACC.out, HP.out, HKZ.out]; simp [List.append_assoc]
          case measure => simp [intOf]; omega
    · go_wp2_with fail
      go_end0
      exact ⟨rfl, by rw [HACC.out, List.drop_of_length_le (i := k) (l := x.ps) (by omega)]; simpa [pts] using hb0, hbw, hkp⟩

end Go.Proofs.YthmoadkkadlefaaDoor
