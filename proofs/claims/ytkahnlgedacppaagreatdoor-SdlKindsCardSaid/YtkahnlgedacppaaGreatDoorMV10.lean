/-
  What value.Value answers.
-/
import Derived.Test.YtkahnlgedacppaaGreatDoorMV5
import Derived.Test.YtkahnlgedacppaaGreatDoorMV3
import Derived.Test.YtkahnlgedacppaaGreatDoorMDm
import Derived.Test.YtkahnlgedacppaaGreatDoorMQuote2
import Derived.BigQuiet
namespace Go.Proofs.YtkahnlgedacppaaGreatDoor
open Go.RowKit

/-- What is no value by itself: a sign, or nothing. -/
theorem plain_zero {t : Sk} (h : (plainV t).k = 0) : plainV t = vz := by
  unfold plainV at h ⊢
  by_cases h1 : t.1 = 1
  · rw [if_pos h1] at h
    exfalso
    unfold wordV at h
    split at h
    · exact absurd h (by decide)
    split at h
    · exact absurd h (by show ¬ ((2 : Int) = 0); decide)
    split at h
    · exact absurd h (by show ¬ ((2 : Int) = 0); decide)
    · exact absurd h (by show ¬ ((6 : Int) = 0); decide)
  rw [if_neg h1] at h ⊢
  by_cases h2 : t.1 = 2
  · rw [if_pos h2] at h; exact absurd h (by show ¬ ((3 : Int) = 0); decide)
  rw [if_neg h2] at h ⊢
  by_cases h3 : t.1 = 3
  · rw [if_pos h3] at h; exact absurd h (by show ¬ ((4 : Int) = 0); decide)
  rw [if_neg h3] at h ⊢
  by_cases h4 : t.1 = 4
  · rw [if_pos h4] at h; exact absurd h (by show ¬ ((5 : Int) = 0); decide)
  rw [if_neg h4]
theorem plain_leaf (t : Sk) : (plainV t).ns = [] ∧ (plainV t).ps = [] ∧ (plainV t).s.size ≤ t.2.length := by
  unfold plainV wordV
  split
  · split
    · exact ⟨rfl, rfl, Nat.zero_le _⟩
    split
    · exact ⟨rfl, rfl, Nat.le_refl _⟩
    split
    · exact ⟨rfl, rfl, Nat.le_refl _⟩
    · exact ⟨rfl, rfl, Nat.le_refl _⟩
  split
  · exact ⟨rfl, rfl, Nat.le_refl _⟩
  split
  · exact ⟨rfl, rfl, Nat.le_refl _⟩
  split
  · exact ⟨rfl, rfl, Nat.le_refl _⟩
  · exact ⟨rfl, rfl, Nat.zero_le _⟩
theorem plain_rd (W : World) (D : Nat → Prop) (n : Nat) (t : Sk) (h : t.2.length ≤ 1000000) : RdD W D (n + 1) (plainV t) (leafOf (plainV t)) := by
  obtain ⟨h1, h2, h3⟩ := plain_leaf t
  have e := JV.eta (plainV t)
  rw [h1, h2] at e
  have := rd_leaf W D n (plainV t).k (plainV t).s (by omega)
  rw [← e] at this
  exact this

/-- What pvT answers, where the token is no value by itself. -/
theorem pvT_plain {f : Nat} {l : List Sk} (h : (plainV (hdK l)).k ≠ 0) : pvT f l = (plainV (hdK l), l.tail, 0) := by
  cases f <;> (unfold pvT; rw [if_pos h])
theorem pvT_var {f : Nat} {l : List Sk} (h : (plainV (hdK l)).k = 0) (h1 : sg (hdK l) 36 = true) : pvT f l = varV l.tail := by
  cases f <;> (unfold pvT; rw [if_neg (by rw [h]; decide), if_pos h1])
theorem pvT_no {f : Nat} {l : List Sk} (h : (plainV (hdK l)).k = 0) (h1 : sg (hdK l) 36 = false) (h2 : sg (hdK l) 91 = false) (h3 : sg (hdK l) 123 = false) : pvT f l = (vz, l, 2) := by
  cases f <;> (unfold pvT; rw [if_neg (by rw [h]; decide), if_neg (by rw [h1]; decide), h2, h3]; rfl)
theorem pvT_deep {l : List Sk} (h : (plainV (hdK l)).k = 0) (h1 : sg (hdK l) 36 = false) (h2 : (sg (hdK l) 91 || sg (hdK l) 123) = true) : pvT 0 l = (vz, l, 4) := by
  unfold pvT
  rw [if_neg (by rw [h]; decide), if_neg (by rw [h1]; decide), if_pos h2]
theorem pvT_listS {f : Nat} {l : List Sk} (h : (plainV (hdK l)).k = 0) (h1 : sg (hdK l) 36 = false) (h2 : sg (hdK l) 91 = true) : pvT (f + 1) l = vListGo (pvT f) l.length l.tail [] := by
  conv => lhs; unfold pvT
  rw [if_neg (by rw [h]; decide), if_neg (by rw [h1]; decide), if_pos h2]
theorem pvT_objS {f : Nat} {l : List Sk} (h : (plainV (hdK l)).k = 0) (h1 : sg (hdK l) 36 = false) (h2 : sg (hdK l) 91 = false) (h3 : sg (hdK l) 123 = true) : pvT (f + 1) l = vObjGo (pvT f) l.length l.tail [] [] := by
  conv => lhs; unfold pvT
  rw [if_neg (by rw [h]; decide), if_neg (by rw [h1]; decide), if_neg (by rw [h2]; decide), if_pos h3]
/-- The cells of a token's box, and of a value's, in later worlds. -/
structure TkBox (W : World) (B : Nat) (t : Tk) : Prop where
  k0 : W.cell? ⟨B, 0, none⟩ = some (.int .i64 t.k)
  k1 : W.cell? ⟨B, 1, none⟩ = some (.string ⟨t.s.toArray⟩)
  k2 : W.cell? ⟨B, 2, none⟩ = some (.int .i64 t.at_)
theorem TkBox.keep {W W' : World} {B : Nat} {t : Tk} (h : TkBox W B t) (hb : W'.heap[B]? = W.heap[B]?) : TkBox W' B t := by
  have c : ∀ o, W'.cell? ⟨B, o, none⟩ = W.cell? ⟨B, o, none⟩ := fun o => World.cell?_of_block (a := ⟨B, o, none⟩) hb
  exact ⟨(c 0).trans h.k0, (c 1).trans h.k1, (c 2).trans h.k2⟩
theorem TkBox.new (w : World) (t : Tk) : TkBox (w.alloc (.cells #[.int .i64 t.k, .string ⟨t.s.toArray⟩, .int .i64 t.at_] 197)) w.heap.size t := by
  have hb : (w.alloc (.cells #[.int .i64 t.k, .string ⟨t.s.toArray⟩, .int .i64 t.at_] 197)).heap[w.heap.size]? = some (.cells #[.int .i64 t.k, .string ⟨t.s.toArray⟩, .int .i64 t.at_] 197 (0, 0)) := heap_alloc_new _ _
  exact ⟨Lib.cell_of_heap hb 0, Lib.cell_of_heap hb 1, Lib.cell_of_heap hb 2⟩
/-- What a call within answered is handed on. -/
theorem vis_on {R : Nat} {a : Option Addr} {cap : Nat} {ts : List Tk} {n : Nat} {w w1 W : World} {p0 p1 : Nat} (h0 : Rv w R a cap ts p0) (_h1 : Rv w1 R a cap ts p1) (ha : Aw R w.heap.size w w1) (hz : w.heap.size < w1.heap.size) {r : VR} {e : Ending} (h : VIsV R a cap ts n w1 r e W) :
    ∃ v er, e = .returned (.tuple #[v, .int .i64 er]) ∧ (∃ k s an ln cn ap lp cp, v = .agg #[.int .i64 k, .string s, .slice an ln cn, .slice ap lp cp]) ∧ (∀ B, B < w1.heap.size → B ≠ R → W.heap[B]? = w1.heap[B]?) ∧
      ∀ c0 c1 c2 c3, VIsV R a cap ts n w r e ((((W.setCell ⟨w.heap.size, 0, none⟩ c0).setCell ⟨w.heap.size, 1, none⟩ c1).setCell ⟨w.heap.size, 2, none⟩ c2).setCell ⟨w.heap.size, 3, none⟩ c3) := by
  obtain ⟨⟨q, hl, hr, haw⟩, hv⟩ := h
  have hn : ∀ c0 c1 c2 c3, NowV R a cap ts w r.2.1 ((((W.setCell ⟨w.heap.size, 0, none⟩ c0).setCell ⟨w.heap.size, 1, none⟩ c1).setCell ⟨w.heap.size, 2, none⟩ c2).setCell ⟨w.heap.size, 3, none⟩ c3) := fun c0 c1 c2 c3 => NowV.four h0 hl hr (ha.trans (haw.mono (by omega))) _ _ _ _
  by_cases he : r.2.2 = 0
  · rw [if_pos he] at hv
    obtain ⟨v, rfl, hR⟩ := hv
    have hs : ∃ k s an ln cn ap lp cp, v = .agg #[.int .i64 k, .string s, .slice an ln cn, .slice ap lp cp] := by
      obtain ⟨an, cn, ap, cp, e⟩ := hR.shape
      exact ⟨_, _, _, _, _, _, _, _, e⟩
    refine ⟨v, 0, rfl, hs, fun B hB hne => haw.block B hB hne, fun c0 c1 c2 c3 => ⟨hn c0 c1 c2 c3, ?_⟩⟩
    rw [if_pos he]
    exact ⟨v, rfl, rd_boxed hz hR _ _ _ _⟩
  · rw [if_neg he] at hv
    refine ⟨_, _, hv.1, ⟨_, _, _, _, _, _, _, _, rfl⟩, fun B hB hne => haw.block B hB hne, fun c0 c1 c2 c3 => ⟨hn c0 c1 c2 c3, ?_⟩⟩
    rw [if_neg he]
    exact hv

set_option maxHeartbeats 8000000 in
set_option maxRecDepth 100000 in
theorem vvalue_step {R : Nat} {a : Option Addr} {cap : Nat} {ts : List Tk} (f dep : Nat) (hf : dep + f = 13) (ih : ∀ f', f = f' + 1 → ValOkV R a cap ts f' (dep + 1)) : ValOkV R a cap ts f dep := by
  intro p w h
  have HI := Lib.hid ih
  have HH := Lib.hid h
  have hRlt := h.lt
  have hts := h.hs
  have hA := h.alloc (.cells #[.int .i64 0, .string ⟨#[]⟩, .slice none 0 0, .slice none 0 0] 52)
  have hX := Bx.new w
  have hb0 : Below w.heap.size w (w.alloc (.cells #[.int .i64 0, .string ⟨#[]⟩, .slice none 0 0, .slice none 0 0] 52)) := (Below.refl _ w).alloc (Nat.le_refl _) _
  have HT := token_any _ hA
  clear ih h
  go_enter Tryz.func323, Tryz.ntmps323
  go_wp2_with fail
  refine HT.mono ?_
  rintro e w1 ⟨t, ht, hz, rfl, hb1⟩
  have hr1 := (hA.below hb1).alloc (.cells #[.int .i64 t.k, .string ⟨t.s.toArray⟩, .int .i64 t.at_] 197)
  have hx1 : Bx w1 w.heap.size := hX.keep (hb1.block _ (by simp))
  have ha1 : Below w.heap.size w w1 := hb0.trans (hb1.mono (by simp))
  have hlt1 : w.heap.size < w1.heap.size := by have := hb1.size; simp at this; omega
  have hk1 := TkBox.new w1 t
  have HP := plain_any t (w1.alloc (.cells #[.int .i64 t.k, .string ⟨t.s.toArray⟩, .int .i64 t.at_] 197))
  have HR1 := Lib.hid hr1
  have HX1 := Lib.hid hx1
  have HA1 := Lib.hid ha1
  have HK1 := Lib.hid hk1
  have HT1 := Lib.hid ht
  clear hA hX hb0 HT hr1 hx1 ha1 hk1 hb1 ht
  go_wp2_with fail
  refine HP.mono ?_
  rintro e w2 ⟨rfl, hb2⟩
  have hz2 := hb2.size
  simp at hz2
  have hr2 := HR1.out.below hb2
  have hx2 : Bx w2 w.heap.size := HX1.out.keep ((hb2.block _ (by simp; omega)).trans (Below.heap_alloc _ _ _ hlt1))
  have hk2 : TkBox w2 w1.heap.size t := HK1.out.keep (hb2.block _ (by simp))
  have ha2 : Below w.heap.size w w2 := (HA1.out.alloc (by omega) _).trans (hb2.mono (by simp; omega))
  rw [HT1.out]
  have hRlt2 : R < w2.heap.size := by omega
  by_cases hp0 : (plainV (hdK (ahead ts p))).k = 0
  · -- no value by itself
    rw [plain_zero hp0]
    have HP0 := Lib.hid hp0
    have hvz : leafOf vz = .agg #[.int .i64 0, .string ⟨#[]⟩, .slice none 0 0, .slice none 0 0] := rfl
    rw [hvz]
    have hr3 := hr2.alloc (.cells #[.int .i64 0, .string ⟨#[]⟩, .slice none 0 0, .slice none 0 0] 52)
    have hx3 : Bx (w2.alloc (.cells #[.int .i64 0, .string ⟨#[]⟩, .slice none 0 0, .slice none 0 0] 52)) w.heap.size := hx2.keep (Below.heap_alloc _ _ _ (by omega))
    have hk3 : TkBox (w2.alloc (.cells #[.int .i64 0, .string ⟨#[]⟩, .slice none 0 0, .slice none 0 0] 52)) w1.heap.size t := hk2.keep (Below.heap_alloc _ _ _ (by omega))
    have ha3 : Below w.heap.size w (w2.alloc (.cells #[.int .i64 0, .string ⟨#[]⟩, .slice none 0 0, .slice none 0 0] 52)) := ha2.alloc (by omega) _
    have hz3 : (w2.alloc (.cells #[.int .i64 0, .string ⟨#[]⟩, .slice none 0 0, .slice none 0 0] 52)).heap.size = w2.heap.size + 1 := by simp
    have HR3 := Lib.hid hr3
    have HX3 := Lib.hid hx3
    have HK3 := Lib.hid hk3
    have HA3 := Lib.hid ha3
    have HZ3 := Lib.hid hz3
    clear hp0 hvz hr2 hx2 hk2 ha2 hb2 hr3 hx3 hk3 ha3 hz3 HP
    by_cases h36 : sg (hdK (ahead ts p)) 36 = true
    · have HT := takeSign_yes 36 _ HR3.out h36
      have HU := Lib.hid (pvT_var (f := f) HP0.out h36)
      clear h36
      go_wp2_with fail
      refine HT.mono ?_
      rintro e w4 ⟨rfl, q4, hl4, hr4, ha4⟩
      have ha04 : Aw R w.heap.size w w4 := (Aw.of HA3.out).trans (ha4.mono (by rw [HZ3.out]; omega))
      have hz4 : w.heap.size < w4.heap.size := by have := ha4.size; rw [HZ3.out] at this; omega
      have hx4 : Bx w4 w.heap.size := HX3.out.keep (ha4.block _ (by rw [HZ3.out]; omega) (by omega))
      have HV := variable_any f w4 hr4
      rw [hl4] at HV
      have HX4 := Lib.hid hx4
      have HR4 := Lib.hid hr4
      have HA4 := Lib.hid ha04
      clear hl4 hr4 ha4 hx4 ha04
      go_wp2_with fail
      refine HV.mono ?_
      intro e w5 hv
      obtain ⟨v, er, rfl, ⟨k, s, an, ln, cn, ap, lp, cp, rfl⟩, hblk, hfin⟩ := vis_on HH.out HR4.out HA4.out hz4 hv
      have hx5 : Bx w5 w.heap.size := HX4.out.keep (hblk _ hz4 (by omega))
      have HF := Lib.hid hfin
      obtain ⟨r0, r1, r2, r3, rf⟩ := hx5
      clear hblk hfin hv HV
      go_wp2_with fail
      refine bodyPost_ret (v := .tuple #[.agg #[.int .i64 k, .string s, .slice an ln cn, .slice ap lp cp], .int .i64 er]) (by simp [results, Tryz.results323, go_sem, r0, r1, r2, r3]) rfl ?_
      rw [HU.out]
      exact HF.out _ _ _ _
    · have h36 : sg (hdK (ahead ts p)) 36 = false := by simpa using h36
      have HT := takeSign_no 36 _ HR3.out h36
      have H36 := Lib.hid h36
      clear h36
      go_wp2_with fail
      refine HT.mono ?_
      rintro e w4 ⟨rfl, hb4⟩
      have hz4 := hb4.size
      rw [HZ3.out] at hz4
      have hr4 := HR3.out.below hb4
      have ha4 : Below w.heap.size w w4 := HA3.out.trans (hb4.mono (by rw [HZ3.out]; omega))
      have hx4 : Bx w4 w.heap.size := HX3.out.keep (hb4.block _ (by rw [HZ3.out]; omega))
      have hk4 : TkBox w4 w1.heap.size t := HK3.out.keep (hb4.block _ (by rw [HZ3.out]; omega))
      have HR4 := Lib.hid hr4
      have HX4 := Lib.hid hx4
      have HA4 := Lib.hid ha4
      have HK4 := Lib.hid hk4
      have HI4 := isSign_any t 91 w4
      rw [HT1.out] at HI4
      obtain ⟨t0, t1, t2⟩ := hk4
      clear hb4 hr4 ha4 hx4 HT
      by_cases h91 : sg (hdK (ahead ts p)) 91 = true
      · rw [h91] at HI4
        have H91 := Lib.hid h91
        clear h91
        go_wp2_with fail
        refine HI4.mono ?_
        rintro e w5 ⟨rfl, hb5⟩
        have hz5 := hb5.size
        have hr5 := HR4.out.below hb5
        have ha5 : Below w.heap.size w w5 := HA4.out.trans (hb5.mono (by omega))
        have hx5 : Bx w5 w.heap.size := HX4.out.keep (hb5.block _ (by omega))
        clear hb5 HI4 t0 t1 t2
        cases f with
        | zero =>
          have hd : decide ((12 : Int) < (dep : Int)) = true := decide_eq_true (by omega)
          have HU := Lib.hid (pvT_deep HP0.out H36.out (by rw [H91.out]; rfl))
          have HR5 := Lib.hid hr5
          have HA5 := Lib.hid ha5
          have HF := Lib.hid (bx_four hx5 (.int .i64 0) (.string ⟨#[]⟩) (.slice none 0 0) (.slice none 0 0))
          obtain ⟨r0, r1, r2, r3, rf⟩ := hx5
          clear hr5 ha5
          go_wp2_with fail
          obtain ⟨k0, k1, k2, k3⟩ := HF.out
          refine bodyPost_ret (v := .tuple #[leaf 0 ⟨#[]⟩, .int .i64 4]) (by simp [results, Tryz.results323, go_sem, k0, k1, k2, k3, leaf]) rfl ?_
          rw [HU.out]
          exact list_none (er := 4) HH.out _ rfl HR5.out (Aw.of HA5.out) (by decide) (by decide) _ _ _ _ _
        | succ f =>
          have hd : decide ((12 : Int) < (dep : Int)) = false := decide_eq_false (by omega)
          have HU := Lib.hid (pvT_listS (f := f) HP0.out H36.out H91.out)
          have HT5 := takeSign_yes 91 w5 hr5 H91.out
          have HX5 := Lib.hid hx5
          have HA5 := Lib.hid ha5
          clear hr5 ha5 hx5
          go_wp2_with fail
          refine HT5.mono ?_
          rintro e w6 ⟨rfl, q6, hl6, hr6, ha6⟩
          have hz6 := ha6.size
          have hlt := sg_ne H91.out
          have HL := vlist_any f dep (ahead ts p).length w6 hr6 (by omega) (by rw [hl6]; exact hlt) (HI.out f rfl)
          rw [hl6] at HL
          have ha06 : Aw R w.heap.size w w6 := (Aw.of HA5.out).trans (ha6.mono (by omega))
          have hx6 : Bx w6 w.heap.size := HX5.out.keep (ha6.block _ (by omega) (by omega))
          have HX6 := Lib.hid hx6
          have HR6 := Lib.hid hr6
          have HA6 := Lib.hid ha06
          clear hl6 hr6 ha6 hx6 ha06 hlt
          go_wp2_with fail
          refine HL.mono ?_
          intro e w7 hv
          obtain ⟨v, er, rfl, ⟨k, s, an, ln, cn, ap, lp, cp, rfl⟩, hblk, hfin⟩ := vis_on HH.out HR6.out HA6.out (by omega) hv
          have hx7 : Bx w7 w.heap.size := HX6.out.keep (hblk _ (by omega) (by omega))
          have HF := Lib.hid hfin
          obtain ⟨r0, r1, r2, r3, rf⟩ := hx7
          clear hblk hfin hv HL
          go_wp2_with fail
          refine bodyPost_ret (v := .tuple #[.agg #[.int .i64 k, .string s, .slice an ln cn, .slice ap lp cp], .int .i64 er]) (by simp [results, Tryz.results323, go_sem, r0, r1, r2, r3]) rfl ?_
          rw [HU.out]
          exact HF.out _ _ _ _
      · have h91 : sg (hdK (ahead ts p)) 91 = false := by simpa using h91
        rw [h91] at HI4
        have H91 := Lib.hid h91
        clear h91
        go_wp2_with fail
        refine HI4.mono ?_
        rintro e w5 ⟨rfl, hb5⟩
        have hz5 := hb5.size
        have hr5 := HR4.out.below hb5
        have ha5 : Below w.heap.size w w5 := HA4.out.trans (hb5.mono (by omega))
        have hx5 : Bx w5 w.heap.size := HX4.out.keep (hb5.block _ (by omega))
        have hk5 : TkBox w5 w1.heap.size t := HK4.out.keep (hb5.block _ (by omega))
        have HI5 := isSign_any t 123 w5
        rw [HT1.out] at HI5
        have HR5 := Lib.hid hr5
        have HX5 := Lib.hid hx5
        have HA5 := Lib.hid ha5
        obtain ⟨s0, s1, s2⟩ := hk5
        clear hb5 hr5 ha5 hx5 HI4 t0 t1 t2
        by_cases h123 : sg (hdK (ahead ts p)) 123 = true
        · rw [h123] at HI5
          have H123 := Lib.hid h123
          clear h123
          go_wp2_with fail
          refine HI5.mono ?_
          rintro e w6 ⟨rfl, hb6⟩
          have hz6 := hb6.size
          have hr6 := HR5.out.below hb6
          have ha6 : Below w.heap.size w w6 := HA5.out.trans (hb6.mono (by omega))
          have hx6 : Bx w6 w.heap.size := HX5.out.keep (hb6.block _ (by omega))
          clear hb6 HI5 s0 s1 s2
          cases f with
          | zero =>
            have hd : decide ((12 : Int) < (dep : Int)) = true := decide_eq_true (by omega)
            have HU := Lib.hid (pvT_deep HP0.out H36.out (by rw [H91.out, H123.out]; rfl))
            have HR6 := Lib.hid hr6
            have HA6 := Lib.hid ha6
            have HF := Lib.hid (bx_four hx6 (.int .i64 0) (.string ⟨#[]⟩) (.slice none 0 0) (.slice none 0 0))
            obtain ⟨r0, r1, r2, r3, rf⟩ := hx6
            clear hr6 ha6
            go_wp2_with fail
            obtain ⟨k0, k1, k2, k3⟩ := HF.out
            refine bodyPost_ret (v := .tuple #[leaf 0 ⟨#[]⟩, .int .i64 4]) (by simp [results, Tryz.results323, go_sem, k0, k1, k2, k3, leaf]) rfl ?_
            rw [HU.out]
            exact list_none (er := 4) HH.out _ rfl HR6.out (Aw.of HA6.out) (by decide) (by decide) _ _ _ _ _
          | succ f =>
            have hd : decide ((12 : Int) < (dep : Int)) = false := decide_eq_false (by omega)
            have HU := Lib.hid (pvT_objS (f := f) HP0.out H36.out H91.out H123.out)
            have HT6 := takeSign_no 91 w6 hr6 H91.out
            have HX6 := Lib.hid hx6
            have HA6 := Lib.hid ha6
            have HR6 := Lib.hid hr6
            clear hr6 ha6 hx6
            go_wp2_with fail
            refine HT6.mono ?_
            rintro e w7 ⟨rfl, hb7⟩
            have hz7 := hb7.size
            have hr7 := HR6.out.below hb7
            have hx7 : Bx w7 w.heap.size := HX6.out.keep (hb7.block _ (by omega))
            have ha7 : Below w.heap.size w w7 := HA6.out.trans (hb7.mono (by omega))
            have hpos := ahead_pos hr7.hp H123.out
            have hr8 : Rv (w7.setCell ⟨R, 1, none⟩ (.int .i64 ((p : Int) + 1))) R a cap ts (p + 1) := hr7.setAt (q := p + 1) (by omega) (by omega)
            have hx8 : Bx (w7.setCell ⟨R, 1, none⟩ (.int .i64 ((p : Int) + 1))) w.heap.size := hx7.keep (Below.heap_setCell _ _ _ _ (by show w.heap.size ≠ R; omega))
            have ha8 : Aw R w.heap.size w (w7.setCell ⟨R, 1, none⟩ (.int .i64 ((p : Int) + 1))) := (Aw.of ha7).set _
            have hs8 : (w7.setCell ⟨R, 1, none⟩ (.int .i64 ((p : Int) + 1))).heap.size = w7.heap.size := by simp [World.setCell]
            have HR8 := Lib.hid hr8
            have HX8 := Lib.hid hx8
            have HA8 := Lib.hid ha8
            have HS8 := Lib.hid hs8
            have c1 := hr7.c1
            have fz := hr7.fz 1
            have hw : IntKind.i64.wrap ((p : Int) + 1) = (p : Int) + 1 := IntWalk.i64_in _ (by omega)
            clear hr7 hx7 ha7 hb7 hr8 hx8 ha8 hs8 HT6
            go_upto_region 15 with fail
            generalize w7.setCell ⟨R, 1, none⟩ (.int .i64 ((p : Int) + 1)) = w8 at *
            have hs8 := HS8.out
            have hlt := sg_ne H123.out
            have HL := vobject_any f dep (ahead ts p).length w8 HR8.out (by omega) (by rw [← ahead_tail]; exact hlt) (HI.out f rfl)
            rw [← ahead_tail] at HL
            clear hlt
            go_wp2_with fail
            refine HL.mono ?_
            intro e w9 hv
            obtain ⟨v, er, rfl, ⟨k, s, an, ln, cn, ap, lp, cp, rfl⟩, hblk, hfin⟩ := vis_on HH.out HR8.out HA8.out (by omega) hv
            have hx9 : Bx w9 w.heap.size := HX8.out.keep (hblk _ (by omega) (by omega))
            have HF := Lib.hid hfin
            obtain ⟨r0, r1, r2, r3, rf⟩ := hx9
            clear hblk hfin hv HL
            go_wp2_with fail
            refine bodyPost_ret (v := .tuple #[.agg #[.int .i64 k, .string s, .slice an ln cn, .slice ap lp cp], .int .i64 er]) (by simp [results, Tryz.results323, go_sem, r0, r1, r2, r3]) rfl ?_
            rw [HU.out]
            exact HF.out _ _ _ _
        · have h123 : sg (hdK (ahead ts p)) 123 = false := by simpa using h123
          rw [h123] at HI5
          have HU := Lib.hid (pvT_no (f := f) HP0.out H36.out H91.out h123)
          clear h123
          go_wp2_with fail
          refine HI5.mono ?_
          rintro e w6 ⟨rfl, hb6⟩
          have hz6 := hb6.size
          have HR6 := Lib.hid (HR5.out.below hb6)
          have HA6 : Hid (Below w.heap.size w w6) := Lib.hid (HA5.out.trans (hb6.mono (by omega)))
          have hx6 : Bx w6 w.heap.size := HX5.out.keep (hb6.block _ (by omega))
          have HF := Lib.hid (bx_four hx6 (.int .i64 0) (.string ⟨#[]⟩) (.slice none 0 0) (.slice none 0 0))
          obtain ⟨r0, r1, r2, r3, rf⟩ := hx6
          clear hb6 HI5 s0 s1 s2
          go_wp2_with fail
          obtain ⟨k0, k1, k2, k3⟩ := HF.out
          refine bodyPost_ret (v := .tuple #[leaf 0 ⟨#[]⟩, .int .i64 2]) (by simp [results, Tryz.results323, go_sem, k0, k1, k2, k3, leaf]) rfl ?_
          rw [HU.out]
          exact list_none (er := 2) HH.out _ rfl HR6.out (Aw.of HA6.out) (by decide) (by decide) _ _ _ _ _
  · -- a value by itself
    have HU := Lib.hid (pvT_plain (f := f) hp0)
    have hpl := plain_ne hp0
    have hpos : p < ts.length := by
      rw [List.length_tail] at hpl
      have : 0 < (ahead ts p).length := by omega
      rw [ahead_len] at this
      omega
    have hzt : (hdK (ahead ts p)).2.length ≤ 1000000 := by rw [← HT1.out]; exact hz
    have HRD := Lib.hid (fun (W : World) (D : Nat → Prop) => plain_rd W D f (hdK (ahead ts p)) hzt)
    have hk0 : ((plainV (hdK (ahead ts p))).k == 0) = false := beq_eq_false_iff_ne.2 hp0
    have HX2 := Lib.hid hx2
    have HN := Lib.hid (fun c0 c1 c2 c3 o => (NowV.four HH.out (ahead_tail ts p).symm (hr2.setAt (q := p + 1) (z := (p : Int) + 1) (by omega) (by omega)) ((Aw.of ha2).set (j := 1) (.int .i64 ((p : Int) + 1))) c0 c1 c2 c3).alloc o)
    have HF := Lib.hid (fun c0 c1 c2 c3 o => bx_fourA (hx2.keep (Below.heap_setCell w2 ⟨R, 1, none⟩ (.int .i64 ((p : Int) + 1)) w.heap.size (by show w.heap.size ≠ R; omega))) c0 c1 c2 c3 o)
    have c1 := hr2.c1
    have fz := hr2.fz 1
    have hw : IntKind.i64.wrap ((p : Int) + 1) = (p : Int) + 1 := IntWalk.i64_in _ (by omega)
    obtain ⟨r0, r1, r2, r3, rf⟩ := hx2
    generalize plainV (hdK (ahead ts p)) = x at *
    have hlt2 : w.heap.size < w2.heap.size := by omega
    have hRh : R ≠ w.heap.size := by omega
    clear hp0 hpl hr2 hk2 ha2 hb2 HP hzt
    unfold leafOf leaf at *
    go_wp2_with fail
    obtain ⟨k0, k1, k2, k3⟩ := HF.out (.int .i64 x.k) (.string x.s) (.slice none 0 0) (.slice none 0 0) (.cells #[.int .i64 x.k, .string x.s, .slice none 0 0, .slice none 0 0] 52)
    refine bodyPost_ret (v := .tuple #[.agg #[.int .i64 x.k, .string x.s, .slice none 0 0, .slice none 0 0], .int .i64 0]) (by simp [results, Tryz.results323, go_sem, k0, k1, k2, k3]) rfl ?_
    rw [HU.out]
    refine ⟨HN.out _ _ _ _ _, ?_⟩
    rw [if_pos rfl]
    exact ⟨_, rfl, HRD.out _ _⟩

theorem vvalue_any {R : Nat} {a : Option Addr} {cap : Nat} {ts : List Tk} : ∀ (f dep : Nat), dep + f = 13 → ValOkV R a cap ts f dep
  | 0, dep, h => vvalue_step 0 dep h (fun f' e => by omega)
  | f + 1, dep, h => vvalue_step (f + 1) dep h (fun f' e => by
      obtain rfl : f' = f := by omega
      exact vvalue_any f' (dep + 1) (by omega))

end Go.Proofs.YtkahnlgedacppaaGreatDoor
/-
  What value.Value answers, from the first token on.
-/
namespace Go.Proofs.YtkahnlgedacppaaGreatDoor
open Go.RowKit

/-- What Value answers of a row of n tokens. -/
def ValAns (n : Nat) (w : World) (r : VR) (e : Ending) (w' : World) : Prop :=
  Below w.heap.size w w' ∧ ∃ v, e = .returned (.tuple #[v, .int .i64 ((n - r.2.1.length : Nat) : Int), .int .i64 r.2.2]) ∧ (∃ k s an ln cn ap lp cp, v = .agg #[.int .i64 k, .string s, .slice an ln cn, .slice ap lp cp]) ∧
    (if r.2.2 = 0 then RdD w' (fun b => w.heap.size ≤ b ∧ b < w'.heap.size) 13 r.1 v else v = leaf 0 ⟨#[]⟩)
theorem valAns_fin {w w2 W' : World} {er : Nat} {x : JV} {v : Value} (hfin : if er = 0 then RdD w2 (fun b => w.heap.size + 2 ≤ b ∧ b < w2.heap.size) 13 x v else v = leaf 0 ⟨#[]⟩) (hb : ∀ b, b < w2.heap.size → b ≠ w.heap.size → W'.heap[b]? = w2.heap[b]?) (hz : w2.heap.size ≤ W'.heap.size) :
    if er = 0 then RdD W' (fun b => w.heap.size ≤ b ∧ b < W'.heap.size) 13 x v else v = leaf 0 ⟨#[]⟩ := by
  by_cases he : er = 0
  · rw [if_pos he] at hfin ⊢
    exact RdD.step (fun b hd => ⟨by omega, by omega⟩) (fun b o hd => World.cell?_of_block (a := ⟨b, o, none⟩) (hb b hd.2 (by omega))) hfin
  · rw [if_neg he] at hfin ⊢
    exact hfin

end Go.Proofs.YtkahnlgedacppaaGreatDoor
/-
  value's nodes: what a value is by its shape; which of them may be read.
-/
namespace Go.Proofs.YtkahnlgedacppaaGreatDoor
open Go.RowKit

end Go.Proofs.YtkahnlgedacppaaGreatDoor
/-
  value's nodes: which leaves, which objects may be read; a leaf's text.
-/
namespace Go.Proofs.YtkahnlgedacppaaGreatDoor
open Go.RowKit

end Go.Proofs.YtkahnlgedacppaaGreatDoor
/-
  value's nodes: which objects may be read; a leaf's text.
-/
namespace Go.Proofs.YtkahnlgedacppaaGreatDoor
open Go.RowKit

end Go.Proofs.YtkahnlgedacppaaGreatDoor
