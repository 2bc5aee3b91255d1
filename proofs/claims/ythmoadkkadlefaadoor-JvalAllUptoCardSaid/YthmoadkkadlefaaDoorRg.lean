/-
  What the document's Get answers: the same as the program's.
-/
import Derived.Test.YthmoadkkadlefaaDoorGet
import Derived.Test.YthmoadkkadlefaaDoorRs
import Derived.Test.YthmoadkkadlefaaDoorCopy3
namespace Go.Proofs.YthmoadkkadlefaaDoor
open Go.RowKit

theorem idxFrom_at (name : ByteArray) : ∀ (ns : List ByteArray) (i j : Nat), (∀ t, t < j → ns[t]? ≠ some name) → ns[j]? = some name → Lib.idxFromS ns name i = i + j
  | [], _, _, _, h => by simp at h
  | z :: r, i, 0, _, h => by
    have : z = name := by simpa using h
    unfold Lib.idxFromS
    rw [if_pos this]
    rfl
  | z :: r, i, j + 1, hn, h => by
    have h0 : z ≠ name := fun e => hn 0 (by omega) (by simp [e])
    unfold Lib.idxFromS
    rw [if_neg h0, idxFrom_at name r (i + 1) j (fun t ht => by have := hn (t + 1) (by omega); simpa using this) (by simpa using h)]
    omega
theorem idxFrom_no (name : ByteArray) : ∀ (ns : List ByteArray) (i k : Nat), (∀ t, t < k → ns[t]? ≠ some name) → Lib.idxFromS ns name i < 0 ∨ ((i + k : Nat) : Int) ≤ Lib.idxFromS ns name i
  | [], _, _, _ => .inl (by unfold Lib.idxFromS; omega)
  | z :: r, i, 0, _ => by
    have gen : ∀ (ns : List ByteArray) (i : Nat), Lib.idxFromS ns name i < 0 ∨ (i : Int) ≤ Lib.idxFromS ns name i := by
      intro ns
      induction ns with
      | nil => intro i; exact .inl (by unfold Lib.idxFromS; omega)
      | cons z r ih =>
        intro i
        unfold Lib.idxFromS
        split
        · exact .inr (Int.le_refl _)
        · have := ih (i + 1)
          omega
    exact gen _ _
  | z :: r, i, k + 1, hn => by
    have h0 : z ≠ name := fun e => hn 0 (by omega) (by simp [e])
    unfold Lib.idxFromS
    rw [if_neg h0]
    have := idxFrom_no name r (i + 1) k (fun t ht => by have := hn (t + 1) (by omega); simpa using this)
    omega
theorem getJ_at {x : JV} {name : ByteArray} {j : Nat} {y : JV} (h8 : x.k = 8) (hn : ∀ t, t < j → x.ns[t]? ≠ some name) (h : x.ns[j]? = some name) (hy : x.ps[j]? = some y) : getJ x name = some y := by
  unfold getJ
  have e : Lib.idxOfS x.ns name = j := by unfold Lib.idxOfS; rw [idxFrom_at name x.ns 0 j hn h]; omega
  have hl := (List.getElem?_eq_some_iff.1 hy).1
  rw [e, if_pos ⟨h8, by omega, by omega⟩, show ((j : Int)).toNat = j by omega, hy]
theorem getJ_no {x : JV} {name : ByteArray} {k : Nat} (hn : ∀ t, t < k → x.ns[t]? ≠ some name) (hk : x.ns.length ≤ k ∨ x.ps.length ≤ k) : getJ x name = none := by
  unfold getJ
  have h1 : Lib.idxOfS x.ns name < 0 ∨ (k : Int) ≤ Lib.idxOfS x.ns name := by
    have := idxFrom_no name x.ns 0 k hn
    unfold Lib.idxOfS
    omega
  rcases hk with hk | hk
  · have h2 : Lib.idxOfS x.ns name < 0 ∨ (x.ns.length : Int) ≤ Lib.idxOfS x.ns name := by omega
    rcases h2 with h2 | h2
    · rw [if_neg (by omega)]
    · exfalso
      have h3 : ∀ t, x.ns[t]? ≠ some name := fun t e => by
        have hl := (List.getElem?_eq_some_iff.1 e).1
        exact hn t (by omega) e
      have := idxFrom_no name x.ns 0 (x.ns.length + 1) (fun t _ => h3 t)
      have := (idx_range x.ns name).2
      unfold Lib.idxOfS at *
      omega
  · rw [if_neg (by omega)]
theorem getJ_kind {x : JV} {name : ByteArray} (h : x.k ≠ 8) : getJ x name = none := by
  unfold getJ
  rw [if_neg (fun e => h e.1)]

set_option maxHeartbeats 2000000 in
set_option maxRecDepth 100000 in
theorem refget_any (B n : Nat) (x : JV) (v : Value) (name : ByteArray) (w : World) (hB : B ≤ w.heap.size) (h : Rd w B (n + 1) x v) :
    Calls Tryd.prog 12 #[v, .string name] w (GetIs n (getJ x name) w) := by
  obtain ⟨an, cn, ap, cp, rfl, ⟨z1, z2, z3, z4, z5⟩, hs, hr⟩ := h
  obtain ⟨W, hW⟩ : ∃ W, W = ((w.alloc (.cells #[.int .i64 x.k, .string x.s, .slice an x.ns.length cn, .slice ap x.ps.length cp] 25)).alloc (.cells #[.int .i64 0, .string ⟨#[]⟩, .slice none 0 0, .slice none 0 0] 25)) := ⟨_, rfl⟩
  have hWz : W.heap.size = w.heap.size + 2 := by rw [hW]; simp
  have hb : Below w.heap.size w W := by rw [hW]; exact ((Below.refl _ w).alloc (Nat.le_refl _) _).alloc (by simp) _
  have c0 : W.cell? ⟨w.heap.size, 0, none⟩ = some (.int .i64 x.k) := by rw [hW]; go_simp
  have c2 : W.cell? ⟨w.heap.size, 2, none⟩ = some (.slice an x.ns.length cn) := by rw [hW]; go_simp
  have c3 : W.cell? ⟨w.heap.size, 3, none⟩ = some (.slice ap x.ps.length cp) := by rw [hW]; go_simp
  have r0 : W.cell? ⟨w.heap.size + 1, 0, none⟩ = some (.int .i64 0) := by rw [hW]; go_simp
  have r1 : W.cell? ⟨w.heap.size + 1, 1, none⟩ = some (.string ⟨#[]⟩) := by rw [hW]; go_simp
  have r2 : W.cell? ⟨w.heap.size + 1, 2, none⟩ = some (.slice none 0 0) := by rw [hW]; go_simp
  have r3 : W.cell? ⟨w.heap.size + 1, 3, none⟩ = some (.slice none 0 0) := by rw [hW]; go_simp
  have rf : ∀ j, W.frozen? ⟨w.heap.size + 1, j, none⟩ = false := fun j => by rw [hW]; go_simp
  have bz : ∀ a b c d, Below w.heap.size w ((((W.setCell ⟨w.heap.size + 1, 0, none⟩ a).setCell ⟨w.heap.size + 1, 1, none⟩ b).setCell ⟨w.heap.size + 1, 2, none⟩ c).setCell ⟨w.heap.size + 1, 3, none⟩ d) := fun a b c d =>
    (((hb.setCell (p := ⟨w.heap.size + 1, 0, none⟩) (by show w.heap.size ≤ w.heap.size + 1; omega) _).setCell (p := ⟨w.heap.size + 1, 1, none⟩) (by show w.heap.size ≤ w.heap.size + 1; omega) _).setCell (p := ⟨w.heap.size + 1, 2, none⟩) (by show w.heap.size ≤ w.heap.size + 1; omega) _).setCell (p := ⟨w.heap.size + 1, 3, none⟩) (by show w.heap.size ≤ w.heap.size + 1; omega) _
  have HB := Lib.hid hb
  have HZ := Lib.hid bz
  have HW := Lib.hid hW
  clear bz hW
  by_cases hk : x.k = 8
  · have hk' : (x.k == 8) = true := by simpa using hk
    have HK := Lib.hid hk
    clear hk
    go_enter Tryd.func12, Tryd.ntmps12
    go_wp2_with fail
    rw [← HW.out]
    go_loop [6] (fun v => ∃ i : Nat, i ≤ x.ns.length ∧ v = .int .i64 i ∧ Hid (∀ t, t < i → x.ns[t]? ≠ some name)) (fun v => x.ns.length - (intOf v).toNat)
    case atStart => exact ⟨0, Nat.zero_le _, rfl, Lib.hid fun t h => absurd h (by omega)⟩
    case round =>
      obtain ⟨i, hi, rfl, HI⟩ := hrel
      by_cases h1 : i < x.ns.length
      · have d1 : decide ((i : Int) < x.ns.length) = true := decide_eq_true (by omega)
        by_cases h2 : i < x.ps.length
        · have d2 : decide ((i : Int) < x.ps.length) = true := decide_eq_true (by omega)
          obtain ⟨b, off, rfl, hbn, _, hcn⟩ := (hs.below (HB.out.mono hB)).at_ h1
          have HG := Lib.hid (List.getElem?_eq_getElem h1)
          generalize x.ns[i] = nm at *
          have hbw : b < W.heap.size := by omega
          by_cases he : nm = name
          · have e1 : (nm.toList == name.toList) = true := by rw [he]; simp
            obtain ⟨b', off', y, an', cn', ap', cp', HY, rfl, hbl, hRr, g0, g1, g2, g3⟩ := hr.elem h2 (HB.out.mono hB)
            have HN := Lib.hid (getJ_at HK.out HI.out (by rw [HG.out, he]) (show x.ps[i]? = some y by rw [List.getElem?_eq_getElem h2, HY.out]))
            have hbw' : b' < W.heap.size := by omega
            clear he HY hr hs
            go_wp2_with fail
            refine bodyPost_ret (v := .tuple #[.agg #[.int .i64 y.k, .string y.s, .slice an' y.ns.length cn', .slice ap' y.ps.length cp'], .bool true]) (by simp [results, Tryd.results12, go_sem, r0, r1, r2, r3]) rfl ?_
            rw [HN.out]
            refine ⟨_, rfl, ?_, HZ.out _ _ _ _⟩
            refine ((hRr.keep fun b o hlt => ?_).more ?_).up
            · rw [World.cell?_setCell_other _ _ _ _ (by intro e; injection e with e _; omega), World.cell?_setCell_other _ _ _ _ (by intro e; injection e with e _; omega), World.cell?_setCell_other _ _ _ _ (by intro e; injection e with e _; omega), World.cell?_setCell_other _ _ _ _ (by intro e; injection e with e _; omega)]
            · simp [World.setCell]; omega
          · have e1 : (nm.toList == name.toList) = false := by
              rw [beq_eq_false_iff_ne]
              exact fun e => he (bytes_ext e)
            have HE := Lib.hid he
            clear he
            go_wp2_with fail
            go_round
            case rel => exact ⟨i + 1, by omega, by go_num, Lib.hid fun t ht => by
              by_cases h : t < i
              · exact HI.out t h
              · obtain rfl : t = i := by omega
                rw [HG.out]
                exact fun e => HE.out (Option.some.inj e)⟩
            case measure => simp [intOf]; omega
        · have d2 : decide ((i : Int) < x.ps.length) = false := decide_eq_false (by omega)
          have HN := Lib.hid (getJ_no HI.out (.inr (show x.ps.length ≤ i by omega)))
          clear hr hs
          go_wp2_with fail
          refine bodyPost_ret (v := .tuple #[.agg #[.int .i64 0, .string ⟨#[]⟩, .slice none 0 0, .slice none 0 0], .bool false]) (by simp [results, Tryd.results12, go_sem, r0, r1, r2, r3]) rfl (getIs_none HN.out (HZ.out _ _ _ _))
      · have d1 : decide ((i : Int) < x.ns.length) = false := decide_eq_false (by omega)
        have HN := Lib.hid (getJ_no HI.out (.inl (show x.ns.length ≤ i by omega)))
        clear hr hs
        go_wp2_with fail
        refine bodyPost_ret (v := .tuple #[.agg #[.int .i64 0, .string ⟨#[]⟩, .slice none 0 0, .slice none 0 0], .bool false]) (by simp [results, Tryd.results12, go_sem, r0, r1, r2, r3]) rfl (getIs_none HN.out (HZ.out _ _ _ _))
  · have hk' : (x.k == 8) = false := by simpa using hk
    have HN := Lib.hid (getJ_kind (name := name) hk)
    clear hk hr hs
    go_enter Tryd.func12, Tryd.ntmps12
    go_wp2_with fail
    rw [← HW.out]
    go_loop [6] (fun v => v = .int .i64 0) (fun _ => 0)
    case atStart => rfl
    case round =>
      subst hrel
      go_wp2_with fail
      refine bodyPost_ret (v := .tuple #[.agg #[.int .i64 0, .string ⟨#[]⟩, .slice none 0 0, .slice none 0 0], .bool false]) (by simp [results, Tryd.results12, go_sem, r0, r1, r2, r3]) rfl (getIs_none HN.out (HZ.out _ _ _ _))

end Go.Proofs.YthmoadkkadlefaaDoor
