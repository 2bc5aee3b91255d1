/-
  doc's check: each part of a list.
-/
import Derived.Test.YtibkncgfdhflgaaGreatDoorMDlg
import Derived.Deep.LoopGhost
namespace Go.Proofs.YtibkncgfdhflgaaGreatDoor
open Go.RowKit

set_option maxHeartbeats 4000000 in
set_option maxRecDepth 100000 in
theorem eachArg_any {D : Nat → Prop} {xs : List ArgT} {v : Value} (f : ArgT → Bool) (w : World) (hr : RowD ArgE 5 w D xs v) (hD : ∀ b, D b → b < w.heap.size)
    (hF : ∀ x ∈ xs, ∀ cs W, Below w.heap.size w W → ArgE W D x cs → Calls Tryz.prog 48 #[.agg cs.toArray] W fun e w' => e = .returned (.bool (f x)) ∧ Below W.heap.size W w') :
    Calls Tryz.prog 47 #[v, .func (.func 48) #[] #[]] w fun e w' => e = .returned (.bool (xs.all f)) ∧ Below w.heap.size w w' := by
  obtain ⟨a, cap, rfl, hx6, hcap, hrow⟩ := hr
  have HROW := Lib.hid hrow
  have HF := Lib.hid hF
  have HD := Lib.hid hD
  clear hrow hF hD
  go_enter Tryz.func47, Tryz.ntmps47
  go_wp2_with fail
  go_loopg [6, 9] xs.length (fun j _ v9 wr => ∃ i : Nat, v9 = .int .i64 (i : Int) ∧ i ≤ xs.length ∧ j = xs.length - i ∧ Hid ((xs.take i).all f = true) ∧ Below w.heap.size w wr)
  case atStart => exact ⟨0, rfl, Nat.zero_le _, rfl, Lib.hid (by simp), Below.refl _ _⟩
  case round =>
    obtain ⟨i, rfl, hi, hj, HT, hb⟩ := hrel
    have HB := Lib.hid hb
    have hw : IntKind.i64.wrap ((i : Int) + 1) = (i : Int) + 1 := IntWalk.i64_in _ (by omega)
    by_cases hlt : i < xs.length
    · have hd : decide ((i : Int) < (xs.length : Int)) = true := decide_eq_true (by omega)
      have hd2 : decide (i < xs.length) = true := decide_eq_true hlt
      obtain ⟨g, off, rfl, hDg, hel⟩ := HROW.out (by omega)
      have hx : xs[i]? = some xs[i] := List.getElem?_eq_getElem hlt
      have hmem := List.getElem_mem hlt
      obtain ⟨cs, hcl, hcs, hE⟩ := hel i _ hx
      have HTK := Lib.hid (show (xs.take (i + 1)).all f = ((xs.take i).all f && f xs[i]) by rw [List.take_add_one, List.all_append, hx]; simp)
      have HAL := Lib.hid (show f xs[i] = false → xs.all f = false from fun h => by
        rw [Bool.eq_false_iff]
        intro h2
        have := List.all_eq_true.1 h2 _ hmem
        rw [h] at this; cases this)
      generalize xs[i] = x at *
      obtain ⟨hz1, c0, c1, c2, c3, rfl, hE1⟩ := hE
      have hgl : g < wr.heap.size := Nat.lt_of_lt_of_le (HD.out g hDg) hb.size
      have hce : ∀ o, wr.cell? ⟨g, o, none⟩ = w.cell? ⟨g, o, none⟩ := fun o => World.cell?_of_block (a := ⟨g, o, none⟩) (hb.block g (HD.out g hDg))
      obtain ⟨an, cn, ap, cp, hsh⟩ := hE1.shape
      obtain ⟨rfl, rfl, rfl, rfl⟩ := agg4_inj hsh
      have k0 : wr.cell? ⟨g, off + i * 5, none⟩ = some (.string ⟨x.1.toArray⟩) := (hce _).trans (hcs 0 _ rfl)
      have k1 : wr.cell? ⟨g, off + i * 5 + 1, none⟩ = some (.int .i64 x.2.k) := (hce _).trans (hcs 1 _ rfl)
      have k2 : wr.cell? ⟨g, off + i * 5 + 2, none⟩ = some (.string x.2.s) := (hce _).trans (hcs 2 _ rfl)
      have k3 : wr.cell? ⟨g, off + i * 5 + 3, none⟩ = some (.slice an x.2.ns.length cn) := (hce _).trans (hcs 3 _ rfl)
      have k4 : wr.cell? ⟨g, off + i * 5 + 4, none⟩ = some (.slice ap x.2.ps.length cp) := (hce _).trans (hcs 4 _ rfl)
      have hicp : i < cap := by omega
      have hE' : ArgE (wr.alloc (.cells #[.string ⟨x.1.toArray⟩, .int .i64 x.2.k, .string x.2.s, .slice an x.2.ns.length cn, .slice ap x.2.ps.length cp] 91)) D x [.string ⟨x.1.toArray⟩, .int .i64 x.2.k, .string x.2.s, .slice an x.2.ns.length cn, .slice ap x.2.ps.length cp] := argOk.step (fun _ h => h) (fun b o hb' => World.cell?_of_block (a := ⟨b, o, none⟩) ((Below.heap_alloc _ _ _ (Nat.lt_of_lt_of_le (HD.out b hb') hb.size)).trans (hb.block b (HD.out b hb')))) ⟨hz1, _, _, _, _, rfl, hE1⟩
      have HCL := HF.out x hmem [.string ⟨x.1.toArray⟩, .int .i64 x.2.k, .string x.2.s, .slice an x.2.ns.length cn, .slice ap x.2.ps.length cp] (wr.alloc (.cells #[.string ⟨x.1.toArray⟩, .int .i64 x.2.k, .string x.2.s, .slice an x.2.ns.length cn, .slice ap x.2.ps.length cp] 91)) (hb.alloc hb.size _) hE'
      have HCL : Calls Tryz.prog 48 #[.agg #[.string ⟨x.1.toArray⟩, .int .i64 x.2.k, .string x.2.s, .slice an x.2.ns.length cn, .slice ap x.2.ps.length cp]] (wr.alloc (.cells #[.string ⟨x.1.toArray⟩, .int .i64 x.2.k, .string x.2.s, .slice an x.2.ns.length cn, .slice ap x.2.ps.length cp] 91)) _ := HCL
      have HB2 := Lib.hid (hb.alloc hb.size (.cells #[.string ⟨x.1.toArray⟩, .int .i64 x.2.k, .string x.2.s, .slice an x.2.ns.length cn, .slice ap x.2.ps.length cp] 91))
      clear hb hel hcs hE' hce hcl hx hmem hE1 hsh
      cases hv : f x with
      | true =>
        rw [hv] at HCL HTK
        clear hv
        go_wp2_with fail
        refine HCL.mono ?_
        rintro e w2 ⟨rfl, hb2⟩
        have HB3 := Lib.hid (HB2.out.trans (hb2.mono HB2.out.size))
        clear hb2 HCL
        go_wp2_with fail
        go_roundg (xs.length - (i + 1))
        case measure => omega
        case rel => exact ⟨i + 1, by simp, by omega, rfl, Lib.hid (by rw [HTK.out, HT.out]; rfl), HB3.out⟩
      | false =>
        rw [hv] at HCL
        have HA := Lib.hid (HAL.out hv)
        clear hv
        go_wp2_with fail
        refine HCL.mono ?_
        rintro e w2 ⟨rfl, hb2⟩
        have HB3 := Lib.hid (HB2.out.trans (hb2.mono HB2.out.size))
        clear hb2 HCL
        go_wp2_with fail
        go_ret
        exact ⟨by rw [HA.out]; rfl, HB3.out⟩
    · have hd : decide ((i : Int) < (xs.length : Int)) = false := decide_eq_false (by omega)
      have hd2 : decide (i < xs.length) = false := decide_eq_false hlt
      have HA := Lib.hid (show xs.all f = true by have := HT.out; rwa [List.take_of_length_le (by omega)] at this)
      clear hb
      go_wp2_with fail
      go_ret
      exact ⟨by rw [HA.out]; rfl, HB.out⟩

set_option maxHeartbeats 4000000 in
set_option maxRecDepth 100000 in
theorem eachDir_any {D : Nat → Prop} {xs : List DirT} {v : Value} (f : DirT → Bool) (w : World) (hr : RowD DirE 2 w D xs v) (hD : ∀ b, D b → b < w.heap.size)
    (hF : ∀ x ∈ xs, ∀ cs W, Below w.heap.size w W → DirE W D x cs → Calls Tryz.prog 31 #[.agg cs.toArray] W fun e w' => e = .returned (.bool (f x)) ∧ Below W.heap.size W w') :
    Calls Tryz.prog 30 #[v, .func (.func 31) #[] #[]] w fun e w' => e = .returned (.bool (xs.all f)) ∧ Below w.heap.size w w' := by
  obtain ⟨a, cap, rfl, hx6, hcap, hrow⟩ := hr
  have HROW := Lib.hid hrow
  have HF := Lib.hid hF
  have HD := Lib.hid hD
  clear hrow hF hD
  go_enter Tryz.func30, Tryz.ntmps30
  go_wp2_with fail
  go_loopg [6, 9] xs.length (fun j _ v9 wr => ∃ i : Nat, v9 = .int .i64 (i : Int) ∧ i ≤ xs.length ∧ j = xs.length - i ∧ Hid ((xs.take i).all f = true) ∧ Below w.heap.size w wr)
  case atStart => exact ⟨0, rfl, Nat.zero_le _, rfl, Lib.hid (by simp), Below.refl _ _⟩
  case round =>
    obtain ⟨i, rfl, hi, hj, HT, hb⟩ := hrel
    have HB := Lib.hid hb
    have hw : IntKind.i64.wrap ((i : Int) + 1) = (i : Int) + 1 := IntWalk.i64_in _ (by omega)
    by_cases hlt : i < xs.length
    · have hd : decide ((i : Int) < (xs.length : Int)) = true := decide_eq_true (by omega)
      have hd2 : decide (i < xs.length) = true := decide_eq_true hlt
      obtain ⟨g, off, rfl, hDg, hel⟩ := HROW.out (by omega)
      have hx : xs[i]? = some xs[i] := List.getElem?_eq_getElem hlt
      have hmem := List.getElem_mem hlt
      obtain ⟨cs, hcl, hcs, hE⟩ := hel i _ hx
      have HTK := Lib.hid (show (xs.take (i + 1)).all f = ((xs.take i).all f && f xs[i]) by rw [List.take_add_one, List.all_append, hx]; simp)
      have HAL := Lib.hid (show f xs[i] = false → xs.all f = false from fun h => by
        rw [Bool.eq_false_iff]
        intro h2
        have := List.all_eq_true.1 h2 _ hmem
        rw [h] at this; cases this)
      generalize xs[i] = x at *
      obtain ⟨hz1, v1, rfl, hE1⟩ := hE
      have hgl : g < wr.heap.size := Nat.lt_of_lt_of_le (HD.out g hDg) hb.size
      have hce : ∀ o, wr.cell? ⟨g, o, none⟩ = w.cell? ⟨g, o, none⟩ := fun o => World.cell?_of_block (a := ⟨g, o, none⟩) (hb.block g (HD.out g hDg))
      obtain ⟨an, cn, rfl⟩ := hE1.shape
      have k0 : wr.cell? ⟨g, off + i * 2, none⟩ = some (.string ⟨x.1.toArray⟩) := (hce _).trans (hcs 0 _ rfl)
      have k1 : wr.cell? ⟨g, off + i * 2 + 1, none⟩ = some (.slice an x.2.length cn) := (hce _).trans (hcs 1 _ rfl)
      have hicp : i < cap := by omega
      have hE' : DirE (wr.alloc (.cells #[.string ⟨x.1.toArray⟩, .slice an x.2.length cn] 73)) D x [.string ⟨x.1.toArray⟩, .slice an x.2.length cn] := dirOk.step (fun _ h => h) (fun b o hb' => World.cell?_of_block (a := ⟨b, o, none⟩) ((Below.heap_alloc _ _ _ (Nat.lt_of_lt_of_le (HD.out b hb') hb.size)).trans (hb.block b (HD.out b hb')))) ⟨hz1, _, rfl, hE1⟩
      have HCL := HF.out x hmem [.string ⟨x.1.toArray⟩, .slice an x.2.length cn] (wr.alloc (.cells #[.string ⟨x.1.toArray⟩, .slice an x.2.length cn] 73)) (hb.alloc hb.size _) hE'
      have HCL : Calls Tryz.prog 31 #[.agg #[.string ⟨x.1.toArray⟩, .slice an x.2.length cn]] (wr.alloc (.cells #[.string ⟨x.1.toArray⟩, .slice an x.2.length cn] 73)) _ := HCL
      have HB2 := Lib.hid (hb.alloc hb.size (.cells #[.string ⟨x.1.toArray⟩, .slice an x.2.length cn] 73))
      clear hb hel hcs hE' hce hcl hx hmem hE1
      cases hv : f x with
      | true =>
        rw [hv] at HCL HTK
        clear hv
        go_wp2_with fail
        refine HCL.mono ?_
        rintro e w2 ⟨rfl, hb2⟩
        have HB3 := Lib.hid (HB2.out.trans (hb2.mono HB2.out.size))
        clear hb2 HCL
        go_wp2_with fail
        go_roundg (xs.length - (i + 1))
        case measure => omega
        case rel => exact ⟨i + 1, by simp, by omega, rfl, Lib.hid (by rw [HTK.out, HT.out]; rfl), HB3.out⟩
      | false =>
        rw [hv] at HCL
        have HA := Lib.hid (HAL.out hv)
        clear hv
        go_wp2_with fail
        refine HCL.mono ?_
        rintro e w2 ⟨rfl, hb2⟩
        have HB3 := Lib.hid (HB2.out.trans (hb2.mono HB2.out.size))
        clear hb2 HCL
        go_wp2_with fail
        go_ret
        exact ⟨by rw [HA.out]; rfl, HB3.out⟩
    · have hd : decide ((i : Int) < (xs.length : Int)) = false := decide_eq_false (by omega)
      have hd2 : decide (i < xs.length) = false := decide_eq_false hlt
      have HA := Lib.hid (show xs.all f = true by have := HT.out; rwa [List.take_of_length_le (by omega)] at this)
      clear hb
      go_wp2_with fail
      go_ret
      exact ⟨by rw [HA.out]; rfl, HB.out⟩

set_option maxHeartbeats 4000000 in
set_option maxRecDepth 100000 in
theorem eachVar_any {D : Nat → Prop} {xs : List VarT} {v : Value} (f : VarT → Bool) (w : World) (hr : RowD VarE 7 w D xs v) (hD : ∀ b, D b → b < w.heap.size)
    (hF : ∀ x ∈ xs, ∀ cs W, Below w.heap.size w W → VarE W D x cs → Calls Tryz.prog 29 #[.agg cs.toArray] W fun e w' => e = .returned (.bool (f x)) ∧ Below W.heap.size W w') :
    Calls Tryz.prog 28 #[v, .func (.func 29) #[] #[]] w fun e w' => e = .returned (.bool (xs.all f)) ∧ Below w.heap.size w w' := by
  obtain ⟨a, cap, rfl, hx6, hcap, hrow⟩ := hr
  have HROW := Lib.hid hrow
  have HF := Lib.hid hF
  have HD := Lib.hid hD
  clear hrow hF hD
  go_enter Tryz.func28, Tryz.ntmps28
  go_wp2_with fail
  go_loopg [6, 9] xs.length (fun j _ v9 wr => ∃ i : Nat, v9 = .int .i64 (i : Int) ∧ i ≤ xs.length ∧ j = xs.length - i ∧ Hid ((xs.take i).all f = true) ∧ Below w.heap.size w wr)
  case atStart => exact ⟨0, rfl, Nat.zero_le _, rfl, Lib.hid (by simp), Below.refl _ _⟩
  case round =>
    obtain ⟨i, rfl, hi, hj, HT, hb⟩ := hrel
    have HB := Lib.hid hb
    have hw : IntKind.i64.wrap ((i : Int) + 1) = (i : Int) + 1 := IntWalk.i64_in _ (by omega)
    by_cases hlt : i < xs.length
    · have hd : decide ((i : Int) < (xs.length : Int)) = true := decide_eq_true (by omega)
      have hd2 : decide (i < xs.length) = true := decide_eq_true hlt
      obtain ⟨g, off, rfl, hDg, hel⟩ := HROW.out (by omega)
      have hx : xs[i]? = some xs[i] := List.getElem?_eq_getElem hlt
      have hmem := List.getElem_mem hlt
      obtain ⟨cs, hcl, hcs, hE⟩ := hel i _ hx
      have HTK := Lib.hid (show (xs.take (i + 1)).all f = ((xs.take i).all f && f xs[i]) by rw [List.take_add_one, List.all_append, hx]; simp)
      have HAL := Lib.hid (show f xs[i] = false → xs.all f = false from fun h => by
        rw [Bool.eq_false_iff]
        intro h2
        have := List.all_eq_true.1 h2 _ hmem
        rw [h] at this; cases this)
      generalize xs[i] = x at *
      obtain ⟨hz1, c0, c1, c2, c3, rfl, hE1⟩ := hE
      have hgl : g < wr.heap.size := Nat.lt_of_lt_of_le (HD.out g hDg) hb.size
      have hce : ∀ o, wr.cell? ⟨g, o, none⟩ = w.cell? ⟨g, o, none⟩ := fun o => World.cell?_of_block (a := ⟨g, o, none⟩) (hb.block g (HD.out g hDg))
      obtain ⟨an, cn, ap, cp, hsh⟩ := hE1.shape
      obtain ⟨rfl, rfl, rfl, rfl⟩ := agg4_inj hsh
      have k0 : wr.cell? ⟨g, off + i * 7, none⟩ = some (.string ⟨x.nm.toArray⟩) := (hce _).trans (hcs 0 _ rfl)
      have k1 : wr.cell? ⟨g, off + i * 7 + 1, none⟩ = some (.string ⟨x.ty.1.toArray⟩) := (hce _).trans (hcs 1 _ rfl)
      have k2 : wr.cell? ⟨g, off + i * 7 + 2, none⟩ = some (.string ⟨x.ty.2.toArray⟩) := (hce _).trans (hcs 2 _ rfl)
      have k3 : wr.cell? ⟨g, off + i * 7 + 3, none⟩ = some (.int .i64 x.dflt.k) := (hce _).trans (hcs 3 _ rfl)
      have k4 : wr.cell? ⟨g, off + i * 7 + 4, none⟩ = some (.string x.dflt.s) := (hce _).trans (hcs 4 _ rfl)
      have k5 : wr.cell? ⟨g, off + i * 7 + 5, none⟩ = some (.slice an x.dflt.ns.length cn) := (hce _).trans (hcs 5 _ rfl)
      have k6 : wr.cell? ⟨g, off + i * 7 + 6, none⟩ = some (.slice ap x.dflt.ps.length cp) := (hce _).trans (hcs 6 _ rfl)
      have hicp : i < cap := by omega
      have hE' : VarE (wr.alloc (.cells #[.string ⟨x.nm.toArray⟩, .string ⟨x.ty.1.toArray⟩, .string ⟨x.ty.2.toArray⟩, .int .i64 x.dflt.k, .string x.dflt.s, .slice an x.dflt.ns.length cn, .slice ap x.dflt.ps.length cp] 49)) D x [.string ⟨x.nm.toArray⟩, .string ⟨x.ty.1.toArray⟩, .string ⟨x.ty.2.toArray⟩, .int .i64 x.dflt.k, .string x.dflt.s, .slice an x.dflt.ns.length cn, .slice ap x.dflt.ps.length cp] := varOk.step (fun _ h => h) (fun b o hb' => World.cell?_of_block (a := ⟨b, o, none⟩) ((Below.heap_alloc _ _ _ (Nat.lt_of_lt_of_le (HD.out b hb') hb.size)).trans (hb.block b (HD.out b hb')))) ⟨hz1, _, _, _, _, rfl, hE1⟩
      have HCL := HF.out x hmem [.string ⟨x.nm.toArray⟩, .string ⟨x.ty.1.toArray⟩, .string ⟨x.ty.2.toArray⟩, .int .i64 x.dflt.k, .string x.dflt.s, .slice an x.dflt.ns.length cn, .slice ap x.dflt.ps.length cp] (wr.alloc (.cells #[.string ⟨x.nm.toArray⟩, .string ⟨x.ty.1.toArray⟩, .string ⟨x.ty.2.toArray⟩, .int .i64 x.dflt.k, .string x.dflt.s, .slice an x.dflt.ns.length cn, .slice ap x.dflt.ps.length cp] 49)) (hb.alloc hb.size _) hE'
      have HCL : Calls Tryz.prog 29 #[.agg #[.string ⟨x.nm.toArray⟩, .string ⟨x.ty.1.toArray⟩, .string ⟨x.ty.2.toArray⟩, .int .i64 x.dflt.k, .string x.dflt.s, .slice an x.dflt.ns.length cn, .slice ap x.dflt.ps.length cp]] (wr.alloc (.cells #[.string ⟨x.nm.toArray⟩, .string ⟨x.ty.1.toArray⟩, .string ⟨x.ty.2.toArray⟩, .int .i64 x.dflt.k, .string x.dflt.s, .slice an x.dflt.ns.length cn, .slice ap x.dflt.ps.length cp] 49)) _ := HCL
      have HB2 := Lib.hid (hb.alloc hb.size (.cells #[.string ⟨x.nm.toArray⟩, .string ⟨x.ty.1.toArray⟩, .string ⟨x.ty.2.toArray⟩, .int .i64 x.dflt.k, .string x.dflt.s, .slice an x.dflt.ns.length cn, .slice ap x.dflt.ps.length cp] 49))
      clear hb hel hcs hE' hce hcl hx hmem hE1 hsh
      cases hv : f x with
      | true =>
        rw [hv] at HCL HTK
        clear hv
        go_wp2_with fail
        refine HCL.mono ?_
        rintro e w2 ⟨rfl, hb2⟩
        have HB3 := Lib.hid (HB2.out.trans (hb2.mono HB2.out.size))
        clear hb2 HCL
        go_wp2_with fail
        go_roundg (xs.length - (i + 1))
        case measure => omega
        case rel => exact ⟨i + 1, by simp, by omega, rfl, Lib.hid (by rw [HTK.out, HT.out]; rfl), HB3.out⟩
      | false =>
        rw [hv] at HCL
        have HA := Lib.hid (HAL.out hv)
        clear hv
        go_wp2_with fail
        refine HCL.mono ?_
        rintro e w2 ⟨rfl, hb2⟩
        have HB3 := Lib.hid (HB2.out.trans (hb2.mono HB2.out.size))
        clear hb2 HCL
        go_wp2_with fail
        go_ret
        exact ⟨by rw [HA.out]; rfl, HB3.out⟩
    · have hd : decide ((i : Int) < (xs.length : Int)) = false := decide_eq_false (by omega)
      have hd2 : decide (i < xs.length) = false := decide_eq_false hlt
      have HA := Lib.hid (show xs.all f = true by have := HT.out; rwa [List.take_of_length_le (by omega)] at this)
      clear hb
      go_wp2_with fail
      go_ret
      exact ⟨by rw [HA.out]; rfl, HB.out⟩

set_option maxHeartbeats 4000000 in
set_option maxRecDepth 100000 in
theorem eachSel_any {D : Nat → Prop} {xs : List SelT} {v : Value} {n : Nat} (dep : Int) (f : SelT → Bool) (w : World) (hr : RowD (SelE n) 7 w D xs v) (hD : ∀ b, D b → b < w.heap.size)
    (hF : ∀ x ∈ xs, ∀ cs W, Below w.heap.size w W → (SelE n) W D x cs → Calls Tryz.prog 50 #[.int .i64 dep, .agg cs.toArray] W fun e w' => e = .returned (.bool (f x)) ∧ Below W.heap.size W w') :
    Calls Tryz.prog 49 #[v, .func (.func 50) #[.int .i64 dep] #[]] w fun e w' => e = .returned (.bool (xs.all f)) ∧ Below w.heap.size w w' := by
  obtain ⟨a, cap, rfl, hx6, hcap, hrow⟩ := hr
  have HROW := Lib.hid hrow
  have HF := Lib.hid hF
  have HD := Lib.hid hD
  clear hrow hF hD
  go_enter Tryz.func49, Tryz.ntmps49
  go_wp2_with fail
  go_loopg [6, 9] xs.length (fun j _ v9 wr => ∃ i : Nat, v9 = .int .i64 (i : Int) ∧ i ≤ xs.length ∧ j = xs.length - i ∧ Hid ((xs.take i).all f = true) ∧ Below w.heap.size w wr)
  case atStart => exact ⟨0, rfl, Nat.zero_le _, rfl, Lib.hid (by simp), Below.refl _ _⟩
  case round =>
    obtain ⟨i, rfl, hi, hj, HT, hb⟩ := hrel
    have HB := Lib.hid hb
    have hw : IntKind.i64.wrap ((i : Int) + 1) = (i : Int) + 1 := IntWalk.i64_in _ (by omega)
    by_cases hlt : i < xs.length
    · have hd : decide ((i : Int) < (xs.length : Int)) = true := decide_eq_true (by omega)
      have hd2 : decide (i < xs.length) = true := decide_eq_true hlt
      obtain ⟨g, off, rfl, hDg, hel⟩ := HROW.out (by omega)
      have hx : xs[i]? = some xs[i] := List.getElem?_eq_getElem hlt
      have hmem := List.getElem_mem hlt
      obtain ⟨cs, hcl, hcs, hE⟩ := hel i _ hx
      have HTK := Lib.hid (show (xs.take (i + 1)).all f = ((xs.take i).all f && f xs[i]) by rw [List.take_add_one, List.all_append, hx]; simp)
      have HAL := Lib.hid (show f xs[i] = false → xs.all f = false from fun h => by
        rw [Bool.eq_false_iff]
        intro h2
        have := List.all_eq_true.1 h2 _ hmem
        rw [h] at this; cases this)
      generalize xs[i] = x at *
      obtain ⟨n2, hn2⟩ : ∃ n2, n = n2 + 1 := by
        cases n with
        | zero => exact hE.elim
        | succ n2 => exact ⟨n2, rfl⟩
      rw [hn2] at hE
      obtain ⟨hz1, va, vd, vs, rfl, ha1, hd1, hs1⟩ := hE
      have hgl : g < wr.heap.size := Nat.lt_of_lt_of_le (HD.out g hDg) hb.size
      have hce : ∀ o, wr.cell? ⟨g, o, none⟩ = w.cell? ⟨g, o, none⟩ := fun o => World.cell?_of_block (a := ⟨g, o, none⟩) (hb.block g (HD.out g hDg))
      obtain ⟨aa, ca, rfl⟩ := ha1.shape
      obtain ⟨ad, cd, rfl⟩ := hd1.shape
      obtain ⟨as7, cs7, rfl⟩ := hs1.shape
      have k0 : wr.cell? ⟨g, off + i * 7, none⟩ = some (.int .i64 (x.k : Int)) := (hce _).trans (hcs 0 _ rfl)
      have k1 : wr.cell? ⟨g, off + i * 7 + 1, none⟩ = some (.string ⟨x.al.toArray⟩) := (hce _).trans (hcs 1 _ rfl)
      have k2 : wr.cell? ⟨g, off + i * 7 + 2, none⟩ = some (.string ⟨x.nm.toArray⟩) := (hce _).trans (hcs 2 _ rfl)
      have k3 : wr.cell? ⟨g, off + i * 7 + 3, none⟩ = some (.string ⟨x.on_.toArray⟩) := (hce _).trans (hcs 3 _ rfl)
      have k4 : wr.cell? ⟨g, off + i * 7 + 4, none⟩ = some (.slice aa x.args.length ca) := (hce _).trans (hcs 4 _ rfl)
      have k5 : wr.cell? ⟨g, off + i * 7 + 5, none⟩ = some (.slice ad x.dirs.length cd) := (hce _).trans (hcs 5 _ rfl)
      have k6 : wr.cell? ⟨g, off + i * 7 + 6, none⟩ = some (.slice as7 x.sels.length cs7) := (hce _).trans (hcs 6 _ rfl)
      have hicp : i < cap := by omega
      have hE' : (SelE n) (wr.alloc (.cells #[.int .i64 (x.k : Int), .string ⟨x.al.toArray⟩, .string ⟨x.nm.toArray⟩, .string ⟨x.on_.toArray⟩, .slice aa x.args.length ca, .slice ad x.dirs.length cd, .slice as7 x.sels.length cs7] 41)) D x [.int .i64 (x.k : Int), .string ⟨x.al.toArray⟩, .string ⟨x.nm.toArray⟩, .string ⟨x.on_.toArray⟩, .slice aa x.args.length ca, .slice ad x.dirs.length cd, .slice as7 x.sels.length cs7] := (selOk n).step (fun _ h => h) (fun b o hb' => World.cell?_of_block (a := ⟨b, o, none⟩) ((Below.heap_alloc _ _ _ (Nat.lt_of_lt_of_le (HD.out b hb') hb.size)).trans (hb.block b (HD.out b hb')))) (by rw [hn2]; exact ⟨hz1, _, _, _, rfl, ha1, hd1, hs1⟩)
      have HCL := HF.out x hmem [.int .i64 (x.k : Int), .string ⟨x.al.toArray⟩, .string ⟨x.nm.toArray⟩, .string ⟨x.on_.toArray⟩, .slice aa x.args.length ca, .slice ad x.dirs.length cd, .slice as7 x.sels.length cs7] (wr.alloc (.cells #[.int .i64 (x.k : Int), .string ⟨x.al.toArray⟩, .string ⟨x.nm.toArray⟩, .string ⟨x.on_.toArray⟩, .slice aa x.args.length ca, .slice ad x.dirs.length cd, .slice as7 x.sels.length cs7] 41)) (hb.alloc hb.size _) hE'
      have HCL : Calls Tryz.prog 50 #[.int .i64 dep, .agg #[.int .i64 (x.k : Int), .string ⟨x.al.toArray⟩, .string ⟨x.nm.toArray⟩, .string ⟨x.on_.toArray⟩, .slice aa x.args.length ca, .slice ad x.dirs.length cd, .slice as7 x.sels.length cs7]] (wr.alloc (.cells #[.int .i64 (x.k : Int), .string ⟨x.al.toArray⟩, .string ⟨x.nm.toArray⟩, .string ⟨x.on_.toArray⟩, .slice aa x.args.length ca, .slice ad x.dirs.length cd, .slice as7 x.sels.length cs7] 41)) _ := HCL
      have HB2 := Lib.hid (hb.alloc hb.size (.cells #[.int .i64 (x.k : Int), .string ⟨x.al.toArray⟩, .string ⟨x.nm.toArray⟩, .string ⟨x.on_.toArray⟩, .slice aa x.args.length ca, .slice ad x.dirs.length cd, .slice as7 x.sels.length cs7] 41))
      clear hb hel hcs hE' hce hcl hx hmem ha1 hd1 hs1
      cases hv : f x with
      | true =>
        rw [hv] at HCL HTK
        clear hv
        go_wp2_with fail
        refine HCL.mono ?_
        rintro e w2 ⟨rfl, hb2⟩
        have HB3 := Lib.hid (HB2.out.trans (hb2.mono HB2.out.size))
        clear hb2 HCL
        go_wp2_with fail
        go_roundg (xs.length - (i + 1))
        case measure => omega
        case rel => exact ⟨i + 1, by simp, by omega, rfl, Lib.hid (by rw [HTK.out, HT.out]; rfl), HB3.out⟩
      | false =>
        rw [hv] at HCL
        have HA := Lib.hid (HAL.out hv)
        clear hv
        go_wp2_with fail
        refine HCL.mono ?_
        rintro e w2 ⟨rfl, hb2⟩
        have HB3 := Lib.hid (HB2.out.trans (hb2.mono HB2.out.size))
        clear hb2 HCL
        go_wp2_with fail
        go_ret
        exact ⟨by rw [HA.out]; rfl, HB3.out⟩
    · have hd : decide ((i : Int) < (xs.length : Int)) = false := decide_eq_false (by omega)
      have hd2 : decide (i < xs.length) = false := decide_eq_false hlt
      have HA := Lib.hid (show xs.all f = true by have := HT.out; rwa [List.take_of_length_le (by omega)] at this)
      clear hb
      go_wp2_with fail
      go_ret
      exact ⟨by rw [HA.out]; rfl, HB.out⟩

set_option maxHeartbeats 4000000 in
set_option maxRecDepth 100000 in
theorem eachOp_any {D : Nat → Prop} {xs : List OpT} {v : Value} (f : OpT → Bool) (w : World) (hr : RowD OpE 5 w D xs v) (hD : ∀ b, D b → b < w.heap.size)
    (hF : ∀ x ∈ xs, ∀ cs W, Below w.heap.size w W → OpE W D x cs → Calls Tryz.prog 16 #[.agg cs.toArray] W fun e w' => e = .returned (.bool (f x)) ∧ Below W.heap.size W w') :
    Calls Tryz.prog 15 #[v, .func (.func 16) #[] #[]] w fun e w' => e = .returned (.bool (xs.all f)) ∧ Below w.heap.size w w' := by
  obtain ⟨a, cap, rfl, hx6, hcap, hrow⟩ := hr
  have HROW := Lib.hid hrow
  have HF := Lib.hid hF
  have HD := Lib.hid hD
  clear hrow hF hD
  go_enter Tryz.func15, Tryz.ntmps15
  go_wp2_with fail
  go_loopg [6, 9] xs.length (fun j _ v9 wr => ∃ i : Nat, v9 = .int .i64 (i : Int) ∧ i ≤ xs.length ∧ j = xs.length - i ∧ Hid ((xs.take i).all f = true) ∧ Below w.heap.size w wr)
  case atStart => exact ⟨0, rfl, Nat.zero_le _, rfl, Lib.hid (by simp), Below.refl _ _⟩
  case round =>
    obtain ⟨i, rfl, hi, hj, HT, hb⟩ := hrel
    have HB := Lib.hid hb
    have hw : IntKind.i64.wrap ((i : Int) + 1) = (i : Int) + 1 := IntWalk.i64_in _ (by omega)
    by_cases hlt : i < xs.length
    · have hd : decide ((i : Int) < (xs.length : Int)) = true := decide_eq_true (by omega)
      have hd2 : decide (i < xs.length) = true := decide_eq_true hlt
      obtain ⟨g, off, rfl, hDg, hel⟩ := HROW.out (by omega)
      have hx : xs[i]? = some xs[i] := List.getElem?_eq_getElem hlt
      have hmem := List.getElem_mem hlt
      obtain ⟨cs, hcl, hcs, hE⟩ := hel i _ hx
      have HTK := Lib.hid (show (xs.take (i + 1)).all f = ((xs.take i).all f && f xs[i]) by rw [List.take_add_one, List.all_append, hx]; simp)
      have HAL := Lib.hid (show f xs[i] = false → xs.all f = false from fun h => by
        rw [Bool.eq_false_iff]
        intro h2
        have := List.all_eq_true.1 h2 _ hmem
        rw [h] at this; cases this)
      generalize xs[i] = x at *
      obtain ⟨hz1, vv, vd, vs, rfl, hv1, hd1, hs1⟩ := hE
      have hgl : g < wr.heap.size := Nat.lt_of_lt_of_le (HD.out g hDg) hb.size
      have hce : ∀ o, wr.cell? ⟨g, o, none⟩ = w.cell? ⟨g, o, none⟩ := fun o => World.cell?_of_block (a := ⟨g, o, none⟩) (hb.block g (HD.out g hDg))
      obtain ⟨aa, ca, rfl⟩ := hv1.shape
      obtain ⟨ad, cd, rfl⟩ := hd1.shape
      obtain ⟨as7, cs7, rfl⟩ := hs1.shape
      have k0 : wr.cell? ⟨g, off + i * 5, none⟩ = some (.bool x.mut_) := (hce _).trans (hcs 0 _ rfl)
      have k1 : wr.cell? ⟨g, off + i * 5 + 1, none⟩ = some (.string ⟨x.nm.toArray⟩) := (hce _).trans (hcs 1 _ rfl)
      have k2 : wr.cell? ⟨g, off + i * 5 + 2, none⟩ = some (.slice aa x.vars.length ca) := (hce _).trans (hcs 2 _ rfl)
      have k3 : wr.cell? ⟨g, off + i * 5 + 3, none⟩ = some (.slice ad x.dirs.length cd) := (hce _).trans (hcs 3 _ rfl)
      have k4 : wr.cell? ⟨g, off + i * 5 + 4, none⟩ = some (.slice as7 x.sels.length cs7) := (hce _).trans (hcs 4 _ rfl)
      have hicp : i < cap := by omega
      have hE' : OpE (wr.alloc (.cells #[.bool x.mut_, .string ⟨x.nm.toArray⟩, .slice aa x.vars.length ca, .slice ad x.dirs.length cd, .slice as7 x.sels.length cs7] 37)) D x [.bool x.mut_, .string ⟨x.nm.toArray⟩, .slice aa x.vars.length ca, .slice ad x.dirs.length cd, .slice as7 x.sels.length cs7] := opOk.step (fun _ h => h) (fun b o hb' => World.cell?_of_block (a := ⟨b, o, none⟩) ((Below.heap_alloc _ _ _ (Nat.lt_of_lt_of_le (HD.out b hb') hb.size)).trans (hb.block b (HD.out b hb')))) ⟨hz1, _, _, _, rfl, hv1, hd1, hs1⟩
      have HCL := HF.out x hmem [.bool x.mut_, .string ⟨x.nm.toArray⟩, .slice aa x.vars.length ca, .slice ad x.dirs.length cd, .slice as7 x.sels.length cs7] (wr.alloc (.cells #[.bool x.mut_, .string ⟨x.nm.toArray⟩, .slice aa x.vars.length ca, .slice ad x.dirs.length cd, .slice as7 x.sels.length cs7] 37)) (hb.alloc hb.size _) hE'
      have HCL : Calls Tryz.prog 16 #[.agg #[.bool x.mut_, .string ⟨x.nm.toArray⟩, .slice aa x.vars.length ca, .slice ad x.dirs.length cd, .slice as7 x.sels.length cs7]] (wr.alloc (.cells #[.bool x.mut_, .string ⟨x.nm.toArray⟩, .slice aa x.vars.length ca, .slice ad x.dirs.length cd, .slice as7 x.sels.length cs7] 37)) _ := HCL
      have HB2 := Lib.hid (hb.alloc hb.size (.cells #[.bool x.mut_, .string ⟨x.nm.toArray⟩, .slice aa x.vars.length ca, .slice ad x.dirs.length cd, .slice as7 x.sels.length cs7] 37))
      clear hb hel hcs hE' hce hcl hx hmem hv1 hd1 hs1
      cases hv : f x with
      | true =>
        rw [hv] at HCL HTK
        clear hv
        go_wp2_with fail
        refine HCL.mono ?_
        rintro e w2 ⟨rfl, hb2⟩
        have HB3 := Lib.hid (HB2.out.trans (hb2.mono HB2.out.size))
        clear hb2 HCL
        go_wp2_with fail
        go_roundg (xs.length - (i + 1))
        case measure => omega
        case rel => exact ⟨i + 1, by simp, by omega, rfl, Lib.hid (by rw [HTK.out, HT.out]; rfl), HB3.out⟩
      | false =>
        rw [hv] at HCL
        have HA := Lib.hid (HAL.out hv)
        clear hv
        go_wp2_with fail
        refine HCL.mono ?_
        rintro e w2 ⟨rfl, hb2⟩
        have HB3 := Lib.hid (HB2.out.trans (hb2.mono HB2.out.size))
        clear hb2 HCL
        go_wp2_with fail
        go_ret
        exact ⟨by rw [HA.out]; rfl, HB3.out⟩
    · have hd : decide ((i : Int) < (xs.length : Int)) = false := decide_eq_false (by omega)
      have hd2 : decide (i < xs.length) = false := decide_eq_false hlt
      have HA := Lib.hid (show xs.all f = true by have := HT.out; rwa [List.take_of_length_le (by omega)] at this)
      clear hb
      go_wp2_with fail
      go_ret
      exact ⟨by rw [HA.out]; rfl, HB.out⟩

set_option maxHeartbeats 4000000 in
set_option maxRecDepth 100000 in
theorem eachFrag_any {D : Nat → Prop} {xs : List FragT} {v : Value} (f : FragT → Bool) (w : World) (hr : RowD FragE 4 w D xs v) (hD : ∀ b, D b → b < w.heap.size)
    (hF : ∀ x ∈ xs, ∀ cs W, Below w.heap.size w W → FragE W D x cs → Calls Tryz.prog 18 #[.agg cs.toArray] W fun e w' => e = .returned (.bool (f x)) ∧ Below W.heap.size W w') :
    Calls Tryz.prog 17 #[v, .func (.func 18) #[] #[]] w fun e w' => e = .returned (.bool (xs.all f)) ∧ Below w.heap.size w w' := by
  obtain ⟨a, cap, rfl, hx6, hcap, hrow⟩ := hr
  have HROW := Lib.hid hrow
  have HF := Lib.hid hF
  have HD := Lib.hid hD
  clear hrow hF hD
  go_enter Tryz.func17, Tryz.ntmps17
  go_wp2_with fail
  go_loopg [6, 9] xs.length (fun j _ v9 wr => ∃ i : Nat, v9 = .int .i64 (i : Int) ∧ i ≤ xs.length ∧ j = xs.length - i ∧ Hid ((xs.take i).all f = true) ∧ Below w.heap.size w wr)
  case atStart => exact ⟨0, rfl, Nat.zero_le _, rfl, Lib.hid (by simp), Below.refl _ _⟩
  case round =>
    obtain ⟨i, rfl, hi, hj, HT, hb⟩ := hrel
    have HB := Lib.hid hb
    have hw : IntKind.i64.wrap ((i : Int) + 1) = (i : Int) + 1 := IntWalk.i64_in _ (by omega)
    by_cases hlt : i < xs.length
    · have hd : decide ((i : Int) < (xs.length : Int)) = true := decide_eq_true (by omega)
      have hd2 : decide (i < xs.length) = true := decide_eq_true hlt
      obtain ⟨g, off, rfl, hDg, hel⟩ := HROW.out (by omega)
      have hx : xs[i]? = some xs[i] := List.getElem?_eq_getElem hlt
      have hmem := List.getElem_mem hlt
      obtain ⟨cs, hcl, hcs, hE⟩ := hel i _ hx
      have HTK := Lib.hid (show (xs.take (i + 1)).all f = ((xs.take i).all f && f xs[i]) by rw [List.take_add_one, List.all_append, hx]; simp)
      have HAL := Lib.hid (show f xs[i] = false → xs.all f = false from fun h => by
        rw [Bool.eq_false_iff]
        intro h2
        have := List.all_eq_true.1 h2 _ hmem
        rw [h] at this; cases this)
      generalize xs[i] = x at *
      obtain ⟨hz1, vd, vs, rfl, hd1, hs1⟩ := hE
      have hgl : g < wr.heap.size := Nat.lt_of_lt_of_le (HD.out g hDg) hb.size
      have hce : ∀ o, wr.cell? ⟨g, o, none⟩ = w.cell? ⟨g, o, none⟩ := fun o => World.cell?_of_block (a := ⟨g, o, none⟩) (hb.block g (HD.out g hDg))
      obtain ⟨ad, cd, rfl⟩ := hd1.shape
      obtain ⟨as7, cs7, rfl⟩ := hs1.shape
      have k0 : wr.cell? ⟨g, off + i * 4, none⟩ = some (.string ⟨x.nm.toArray⟩) := (hce _).trans (hcs 0 _ rfl)
      have k1 : wr.cell? ⟨g, off + i * 4 + 1, none⟩ = some (.string ⟨x.on_.toArray⟩) := (hce _).trans (hcs 1 _ rfl)
      have k2 : wr.cell? ⟨g, off + i * 4 + 2, none⟩ = some (.slice ad x.dirs.length cd) := (hce _).trans (hcs 2 _ rfl)
      have k3 : wr.cell? ⟨g, off + i * 4 + 3, none⟩ = some (.slice as7 x.sels.length cs7) := (hce _).trans (hcs 3 _ rfl)
      have hicp : i < cap := by omega
      have hE' : FragE (wr.alloc (.cells #[.string ⟨x.nm.toArray⟩, .string ⟨x.on_.toArray⟩, .slice ad x.dirs.length cd, .slice as7 x.sels.length cs7] 53)) D x [.string ⟨x.nm.toArray⟩, .string ⟨x.on_.toArray⟩, .slice ad x.dirs.length cd, .slice as7 x.sels.length cs7] := fragOk.step (fun _ h => h) (fun b o hb' => World.cell?_of_block (a := ⟨b, o, none⟩) ((Below.heap_alloc _ _ _ (Nat.lt_of_lt_of_le (HD.out b hb') hb.size)).trans (hb.block b (HD.out b hb')))) ⟨hz1, _, _, rfl, hd1, hs1⟩
      have HCL := HF.out x hmem [.string ⟨x.nm.toArray⟩, .string ⟨x.on_.toArray⟩, .slice ad x.dirs.length cd, .slice as7 x.sels.length cs7] (wr.alloc (.cells #[.string ⟨x.nm.toArray⟩, .string ⟨x.on_.toArray⟩, .slice ad x.dirs.length cd, .slice as7 x.sels.length cs7] 53)) (hb.alloc hb.size _) hE'
      have HCL : Calls Tryz.prog 18 #[.agg #[.string ⟨x.nm.toArray⟩, .string ⟨x.on_.toArray⟩, .slice ad x.dirs.length cd, .slice as7 x.sels.length cs7]] (wr.alloc (.cells #[.string ⟨x.nm.toArray⟩, .string ⟨x.on_.toArray⟩, .slice ad x.dirs.length cd, .slice as7 x.sels.length cs7] 53)) _ := HCL
      have HB2 := Lib.hid (hb.alloc hb.size (.cells #[.string ⟨x.nm.toArray⟩, .string ⟨x.on_.toArray⟩, .slice ad x.dirs.length cd, .slice as7 x.sels.length cs7] 53))
      clear hb hel hcs hE' hce hcl hx hmem hd1 hs1
      cases hv : f x with
      | true =>
        rw [hv] at HCL HTK
        clear hv
        go_wp2_with fail
        refine HCL.mono ?_
        rintro e w2 ⟨rfl, hb2⟩
        have HB3 := Lib.hid (HB2.out.trans (hb2.mono HB2.out.size))
        clear hb2 HCL
        go_wp2_with fail
        go_roundg (xs.length - (i + 1))
        case measure => omega
        case rel => exact ⟨i + 1, by simp, by omega, rfl, Lib.hid (by rw [HTK.out, HT.out]; rfl), HB3.out⟩
      | false =>
        rw [hv] at HCL
        have HA := Lib.hid (HAL.out hv)
        clear hv
        go_wp2_with fail
        refine HCL.mono ?_
        rintro e w2 ⟨rfl, hb2⟩
        have HB3 := Lib.hid (HB2.out.trans (hb2.mono HB2.out.size))
        clear hb2 HCL
        go_wp2_with fail
        go_ret
        exact ⟨by rw [HA.out]; rfl, HB3.out⟩
    · have hd : decide ((i : Int) < (xs.length : Int)) = false := decide_eq_false (by omega)
      have hd2 : decide (i < xs.length) = false := decide_eq_false hlt
      have HA := Lib.hid (show xs.all f = true by have := HT.out; rwa [List.take_of_length_le (by omega)] at this)
      clear hb
      go_wp2_with fail
      go_ret
      exact ⟨by rw [HA.out]; rfl, HB.out⟩

end Go.Proofs.YtibkncgfdhflgaaGreatDoor
