/-
  jread's reader: what value answers.
-/
import Derived.Test.YtbcenaljaoejkaaDoorJr8
namespace Go.Proofs.YtbcenaljaoejkaaDoor
open Go.RowKit

theorem RdD.lift {w : World} {D : Nat → Prop} : ∀ {n : Nat} {x : JV} {v : Value}, RdD w D n x v → RdD w D (n + 1) x v
  | 0, _, _, h => h.elim
  | _ + 1, _, _, h => by
    obtain ⟨an, cn, ap, cp, e, hz, hs, hr⟩ := h
    refine ⟨an, cn, ap, cp, e, hz, hs, fun hp => ?_⟩
    obtain ⟨b, off, e, hb, hc⟩ := hr hp
    refine ⟨b, off, e, hb, fun i x hx => ?_⟩
    obtain ⟨c0, c1, c2, c3, h4, hR⟩ := hc i x hx
    exact ⟨c0, c1, c2, c3, h4, RdD.lift hR⟩

theorem rd_leaf (W : World) (D : Nat → Prop) (n : Nat) (k : Int) (s : ByteArray) (hs : s.size ≤ 2000000) : RdD W D (n + 1) (.mk k s [] []) (leaf k s) :=
  ⟨none, 0, none, 0, rfl, ⟨hs, Nat.zero_le _, Nat.zero_le _, Nat.le_refl _, Nat.le_refl _⟩, fun h => absurd h (Nat.lt_irrefl 0), fun h => absurd h (Nat.lt_irrefl 0)⟩

theorem Bad.aw {R : Nat} {w w1 w2 : World} {e : Ending} (ha : Aw R w.heap.size w w1) (h : Bad R w1 e w2) : Bad R w e w2 := ⟨h.1, ha.trans (h.2.mono ha.size)⟩

/-- A value that was made, behind the store into the box of the result. -/
theorem rd_boxed {w w1 w2 : World} {n : Nat} {x : JV} {v : Value} (hs : w.heap.size < w1.heap.size) (h : RdD w2 (fun b => w1.heap.size ≤ b ∧ b < w2.heap.size) n x v) (c0 c1 c2 c3 : Value) :
    RdD ((((w2.setCell ⟨w.heap.size, 0, none⟩ c0).setCell ⟨w.heap.size, 1, none⟩ c1).setCell ⟨w.heap.size, 2, none⟩ c2).setCell ⟨w.heap.size, 3, none⟩ c3) (fun b => w.heap.size ≤ b ∧ b < ((((w2.setCell ⟨w.heap.size, 0, none⟩ c0).setCell ⟨w.heap.size, 1, none⟩ c1).setCell ⟨w.heap.size, 2, none⟩ c2).setCell ⟨w.heap.size, 3, none⟩ c3).heap.size) n x v :=
  RdD.step (fun b hd => ⟨by omega, by rw [size_four]; exact hd.2⟩) (fun b o hd => World.cell?_of_block (a := ⟨b, o, none⟩) (heap_four _ _ _ _ _ _ b (by omega))) h

theorem ne_u8 {b c : UInt8} (h : b ≠ c) : (((b.toNat : Nat) : Int) == ((c.toNat : Nat) : Int)) = false := by
  simp only [beq_eq_false_iff_ne, ne_eq]
  intro e
  exact h (UInt8.toNat_inj.1 (by omega))

theorem ofL_size (l : List UInt8) : (ofL l).size = l.length := rfl

set_option maxHeartbeats 8000000 in
set_option maxRecDepth 100000 in
theorem value_step (R : Nat) (s : ByteArray) (hs : s.size ≤ 4000) (f dep : Nat) (hdep : dep ≤ 5000) (ih : ValOk R s f (dep + 1)) : ValOk R s (f + 1) dep := by
  intro p d t w h hp hf
  have hRlt := h.lt
  have hne : R ≠ w.heap.size := by omega
  have HI := Lib.hid ih
  clear ih
  have hl0 := sk_le (s.data.toList.drop p)
  rw [len_drop] at hl0
  generalize hlp : s.data.toList.drop p = l at *
  have HF := Lib.hid (show (sk l).length < f + 1 from Nat.lt_of_le_of_lt (sk_le l) hf)
  cases hdp : deepB dep with
  | true =>
    have hdc : decide ((12 : Int) < dep) = true := by
      unfold deepB at hdp
      simp only [decide_eq_true_eq] at hdp
      simp only [decide_eq_true_eq]
      omega
    have HD : Hid ((d || deepB dep) = true) := Lib.hid (by rw [hdp]; exact Bool.or_true d)
    have hr0 : Rdr ((w.setCell ⟨R, 2, none⟩ (.bool true)).alloc (.cells #[.int .i64 0, .string ⟨#[]⟩, .slice none 0 0, .slice none 0 0] 26)) R s p true t := ((h.setDeep true).alloc _)
    have ha0 : Aw R w.heap.size w ((w.setCell ⟨R, 2, none⟩ (.bool true)).alloc (.cells #[.int .i64 0, .string ⟨#[]⟩, .slice none 0 0, .slice none 0 0] 26)) := ((Aw.refl R w.heap.size w).set _).alloc (by simp [World.setCell]) _
    have hx0 : Bx ((w.setCell ⟨R, 2, none⟩ (.bool true)).alloc (.cells #[.int .i64 0, .string ⟨#[]⟩, .slice none 0 0, .slice none 0 0] 26)) w.heap.size := by
      have := Bx.new (w.setCell ⟨R, 2, none⟩ (.bool true))
      rw [show (w.setCell ⟨R, 2, none⟩ (.bool true)).heap.size = w.heap.size by simp [World.setCell]] at this
      exact this
    have fz := h.fz
    have c2 := h.c2
    have HNX := next_any R s p true t _ hr0 hp hs
    rw [hlp] at HNX
    have HLP := Lib.hid hlp
    have HX0 := Lib.hid hx0
    have hz0 := hx0.lt
    clear hlp hdp hx0 h hr0
    go_enter Tryd.func31, Tryd.ntmps31
    go_wp2_with fail
    refine HNX.mono ?_
    rintro e w1 ⟨rfl, q1, hq1, hl1, hr1, ha1⟩
    have ha01 : Aw R w.heap.size w w1 := ha0.trans (ha1.mono (by omega))
    have hx1 : Bx w1 w.heap.size := HX0.out.keep (ha1.block _ (by omega) hne.symm)
    have hz1 := hx1.lt
    have HX1 := Lib.hid hx1
    have HR1 := Lib.hid hr1
    have HL1 := Lib.hid hl1
    clear hx1 ha1 ha0 hl1 HX0 hz0 hdc c2 fz
    clear HNX
    by_cases h91 : hd (sk l) = 91
    · have HU := Lib.hid (show pv (f + 1) dep d t l = _ by rw [pv, if_pos h91, HD.out])
      have k91 := Lib.hid h91
      rw [h91]
      clear h91
      have HC := list_any R s f dep q1 true t w1 HR1.out hq1 hs hdep (by rw [HL1.out]; exact HF.out) HI.out (by rw [HL1.out, sk_sk]; exact k91.out)
      rw [HL1.out, sk_sk] at HC
      cases ho : listP (pv f (dep + 1)) f true t ((sk l).drop 1) with
      | none =>
        rw [ho] at HC HU
        clear ho
        go_wp2_with fail
        refine HC.mono ?_
        rintro e w2 hb
        have hb2 : Bad R w1 e w2 := hb
        obtain ⟨rfl, ha2⟩ := hb2
        refine ⟨rfl, ?_⟩
        rw [HU.out]
        exact Bad.aw ha01 hb
      | some o =>
        obtain ⟨x, r, d2, t2⟩ := o
        rw [ho] at HC HU
        clear ho
        go_wp2_with fail
        refine HC.mono ?_
        rintro e w2 ⟨v, rfl, hR, qq, hqq, hl2, hr2, ha2⟩
        obtain ⟨an, cn, ap, cp, rfl⟩ := hR.shape
        have hx2 : Bx w2 w.heap.size := HX1.out.keep (ha2.block _ hz1 hne.symm)
        have HL2 := Lib.hid hl2
        obtain ⟨q0, q1', q2, q3, qz⟩ := hx2
        clear hl2
        go_wp2_with fail
        refine bodyPost_ret (v := .agg #[.int .i64 x.k, .string x.s, .slice an x.ns.length cn, .slice ap x.ps.length cp]) (by simp [results, Tryd.results31, go_sem, q0, q1', q2, q3]) rfl ?_
        rw [HU.out]
        exact ⟨_, rfl, rd_boxed hz1 hR _ _ _ _, qq, hqq, HL2.out, hr2.four hne _ _ _ _, (ha01.trans (ha2.mono (by omega))).four (Nat.le_refl _) _ _ _ _⟩
    · by_cases h123 : hd (sk l) = 123
      · have HU := Lib.hid (show pv (f + 1) dep d t l = _ by rw [pv, if_neg h91, if_pos h123, HD.out])
        have k91 := ne_u8 h91
        have k123 := Lib.hid h123
        rw [h123]
        rw [h123] at k91
        clear h91 h123
        have HC := object_any R s f dep q1 true t w1 HR1.out hq1 hs hdep (by rw [HL1.out]; exact HF.out) HI.out (by rw [HL1.out, sk_sk]; exact k123.out)
        rw [HL1.out, sk_sk] at HC
        cases ho : objP (pv f (dep + 1)) f true t ((sk l).drop 1) with
        | none =>
          rw [ho] at HC HU
          clear ho
          go_wp2_with fail
          refine HC.mono ?_
          rintro e w2 hb
          have hb2 : Bad R w1 e w2 := hb
          obtain ⟨rfl, ha2⟩ := hb2
          refine ⟨rfl, ?_⟩
          rw [HU.out]
          exact Bad.aw ha01 hb
        | some o =>
          obtain ⟨x, r, d2, t2⟩ := o
          rw [ho] at HC HU
          clear ho
          go_wp2_with fail
          refine HC.mono ?_
          rintro e w2 ⟨v, rfl, hR, qq, hqq, hl2, hr2, ha2⟩
          obtain ⟨an, cn, ap, cp, rfl⟩ := hR.shape
          have hx2 : Bx w2 w.heap.size := HX1.out.keep (ha2.block _ hz1 hne.symm)
          have HL2 := Lib.hid hl2
          obtain ⟨q0, q1', q2, q3, qz⟩ := hx2
          clear hl2
          go_wp2_with fail
          refine bodyPost_ret (v := .agg #[.int .i64 x.k, .string x.s, .slice an x.ns.length cn, .slice ap x.ps.length cp]) (by simp [results, Tryd.results31, go_sem, q0, q1', q2, q3]) rfl ?_
          rw [HU.out]
          exact ⟨_, rfl, rd_boxed hz1 hR _ _ _ _, qq, hqq, HL2.out, hr2.four hne _ _ _ _, (ha01.trans (ha2.mono (by omega))).four (Nat.le_refl _) _ _ _ _⟩
      · by_cases h34 : hd (sk l) = 34
        · have HU := Lib.hid (show pv (f + 1) dep d t l = _ by rw [pv, if_neg h91, if_neg h123, if_pos h34, HD.out])
          have k91 := ne_u8 h91
          have k123 := ne_u8 h123
          have k34 := Lib.hid h34
          rw [h34]
          rw [h34] at k91
          rw [h34] at k123
          clear h91 h123 h34
          have hqs : q1 < s.size := by
            have h1 := hd_pos k34.out (by decide)
            rw [← HL1.out, len_drop] at h1
            omega
          have HC := quoted_any R s q1 true t w1 HR1.out hqs hs
          rw [HL1.out] at HC
          cases ho : qt (sk l) with
          | none =>
            rw [ho] at HC HU
            clear ho
            go_wp2_with fail
            refine HC.mono ?_
            rintro e w2 hb
            have hb2 : Bad R w1 e w2 := hb
            obtain ⟨rfl, ha2⟩ := hb2
            refine ⟨rfl, ?_⟩
            rw [HU.out]
            exact Bad.aw ha01 hb
          | some o =>
            obtain ⟨tx, r⟩ := o
            have htx := qt_len ho
            rw [ho] at HC HU
            clear ho
            go_wp2_with fail
            refine HC.mono ?_
            rintro e w2 ⟨rfl, qq, hqq, hl2, hr2, ha2⟩
            have hx2 : Bx w2 w.heap.size := HX1.out.keep (ha2.block _ hz1 hne.symm)
            have HL2 := Lib.hid hl2
            obtain ⟨q0, q1', q2, q3, qz⟩ := hx2
            clear hl2
            go_wp2_with fail
            refine bodyPost_ret (v := leaf 5 (ofL tx)) (by simp [results, Tryd.results31, go_sem, q0, q1', q2, q3, leaf]) rfl ?_
            rw [HU.out]
            exact ⟨_, rfl, rd_leaf _ _ _ _ _ (by show tx.length ≤ _; omega), qq, hqq, HL2.out, hr2.four hne _ _ _ _, (ha01.trans (ha2.mono (by omega))).four (Nat.le_refl _) _ _ _ _⟩
        · by_cases h110 : hd (sk l) = 110
          · have HU := Lib.hid (show pv (f + 1) dep d t l = _ by rw [pv, if_neg h91, if_neg h123, if_neg h34, if_pos h110, HD.out])
            have k91 := ne_u8 h91
            have k123 := ne_u8 h123
            have k34 := ne_u8 h34
            have k110 := Lib.hid h110
            rw [h110]
            rw [h110] at k91
            rw [h110] at k123
            rw [h110] at k34
            clear h91 h123 h34 h110
            cases ho : Lib.hasPrefix (sk l) wNull with
            | false =>
              have HE := Lib.hid (show pv (f + 1) dep d t l = none by rw [HU.out, wordP, ho]; rfl)
              have HC := word_no ⟨#[110, 117, 108, 108]⟩ R s q1 true t w1 HR1.out hq1 (by rw [HL1.out]; exact ho)
              clear ho
              go_wp2_with fail
              refine HC.mono ?_
              rintro e w2 ⟨rfl, ha2⟩
              refine ⟨rfl, ?_⟩
              rw [HE.out]
              exact Bad.aw ha01 ⟨rfl, ha2⟩
            | true =>
              have HE := Lib.hid (show pv (f + 1) dep d t l = some (.mk 1 e0 [] [], (sk l).drop 4, true, t) by rw [HU.out, wordP, ho]; rfl)
              have HC := word_yes ⟨#[110, 117, 108, 108]⟩ R s q1 true t w1 HR1.out hq1 hs (by rw [HL1.out]; exact ho)
              rw [HL1.out] at HC
              clear ho
              go_wp2_with fail
              refine HC.mono ?_
              rintro e w2 ⟨rfl, qq, hqq, hl2, hr2, ha2⟩
              have hx2 : Bx w2 w.heap.size := HX1.out.keep (ha2.block _ hz1 hne.symm)
              have HL2 := Lib.hid hl2
              obtain ⟨q0, q1', q2, q3, qz⟩ := hx2
              clear hl2
              go_wp2_with fail
              refine bodyPost_ret (v := leaf 1 e0) (by simp [results, Tryd.results31, go_sem, q0, q1', q2, q3, leaf, e0]) rfl ?_
              rw [HE.out]
              exact ⟨_, rfl, rd_leaf _ _ _ _ _ (by decide), qq, hqq, HL2.out, hr2.four hne _ _ _ _, (ha01.trans (ha2.mono (by omega))).four (Nat.le_refl _) _ _ _ _⟩
          · by_cases h116 : hd (sk l) = 116
            · have HU := Lib.hid (show pv (f + 1) dep d t l = _ by rw [pv, if_neg h91, if_neg h123, if_neg h34, if_neg h110, if_pos h116, HD.out])
              have k91 := ne_u8 h91
              have k123 := ne_u8 h123
              have k34 := ne_u8 h34
              have k110 := ne_u8 h110
              have k116 := Lib.hid h116
              rw [h116]
              rw [h116] at k91
              rw [h116] at k123
              rw [h116] at k34
              rw [h116] at k110
              clear h91 h123 h34 h110 h116
              cases ho : Lib.hasPrefix (sk l) wTrue with
              | false =>
                have HE := Lib.hid (show pv (f + 1) dep d t l = none by rw [HU.out, wordP, ho]; rfl)
                have HC := truth_no ⟨#[116, 114, 117, 101]⟩ R s q1 true t w1 HR1.out hq1 (by rw [HL1.out]; exact ho)
                clear ho
                go_wp2_with fail
                refine HC.mono ?_
                rintro e w2 ⟨rfl, ha2⟩
                refine ⟨rfl, ?_⟩
                rw [HE.out]
                exact Bad.aw ha01 ⟨rfl, ha2⟩
              | true =>
                have HE := Lib.hid (show pv (f + 1) dep d t l = some (.mk 2 (ofL wTrue) [] [], (sk l).drop 4, true, t) by rw [HU.out, wordP, ho]; rfl)
                have HC := truth_yes ⟨#[116, 114, 117, 101]⟩ R s q1 true t w1 HR1.out hq1 hs (by rw [HL1.out]; exact ho)
                rw [HL1.out] at HC
                clear ho
                go_wp2_with fail
                refine HC.mono ?_
                rintro e w2 ⟨rfl, qq, hqq, hl2, hr2, ha2⟩
                have hx2 : Bx w2 w.heap.size := HX1.out.keep (ha2.block _ hz1 hne.symm)
                have HL2 := Lib.hid hl2
                obtain ⟨q0, q1', q2, q3, qz⟩ := hx2
                clear hl2
                unfold leaf
                go_wp2_with fail
                refine bodyPost_ret (v := leaf 2 ⟨#[116, 114, 117, 101]⟩) (by simp [results, Tryd.results31, go_sem, q0, q1', q2, q3, leaf]) rfl ?_
                rw [HE.out]
                exact ⟨_, rfl, rd_leaf _ _ _ _ _ (by decide), qq, hqq, HL2.out, hr2.four hne _ _ _ _, (ha01.trans (ha2.mono (by omega))).four (Nat.le_refl _) _ _ _ _⟩
            · by_cases h102 : hd (sk l) = 102
              · have HU := Lib.hid (show pv (f + 1) dep d t l = _ by rw [pv, if_neg h91, if_neg h123, if_neg h34, if_neg h110, if_neg h116, if_pos h102, HD.out])
                have k91 := ne_u8 h91
                have k123 := ne_u8 h123
                have k34 := ne_u8 h34
                have k110 := ne_u8 h110
                have k116 := ne_u8 h116
                have k102 := Lib.hid h102
                rw [h102]
                rw [h102] at k91
                rw [h102] at k123
                rw [h102] at k34
                rw [h102] at k110
                rw [h102] at k116
                clear h91 h123 h34 h110 h116 h102
                cases ho : Lib.hasPrefix (sk l) wFalse with
                | false =>
                  have HE := Lib.hid (show pv (f + 1) dep d t l = none by rw [HU.out, wordP, ho]; rfl)
                  have HC := truth_no ⟨#[102, 97, 108, 115, 101]⟩ R s q1 true t w1 HR1.out hq1 (by rw [HL1.out]; exact ho)
                  clear ho
                  go_wp2_with fail
                  refine HC.mono ?_
                  rintro e w2 ⟨rfl, ha2⟩
                  refine ⟨rfl, ?_⟩
                  rw [HE.out]
                  exact Bad.aw ha01 ⟨rfl, ha2⟩
                | true =>
                  have HE := Lib.hid (show pv (f + 1) dep d t l = some (.mk 2 (ofL wFalse) [] [], (sk l).drop 5, true, t) by rw [HU.out, wordP, ho]; rfl)
                  have HC := truth_yes ⟨#[102, 97, 108, 115, 101]⟩ R s q1 true t w1 HR1.out hq1 hs (by rw [HL1.out]; exact ho)
                  rw [HL1.out] at HC
                  clear ho
                  go_wp2_with fail
                  refine HC.mono ?_
                  rintro e w2 ⟨rfl, qq, hqq, hl2, hr2, ha2⟩
                  have hx2 : Bx w2 w.heap.size := HX1.out.keep (ha2.block _ hz1 hne.symm)
                  have HL2 := Lib.hid hl2
                  obtain ⟨q0, q1', q2, q3, qz⟩ := hx2
                  clear hl2
                  unfold leaf
                  go_wp2_with fail
                  refine bodyPost_ret (v := leaf 2 ⟨#[102, 97, 108, 115, 101]⟩) (by simp [results, Tryd.results31, go_sem, q0, q1', q2, q3, leaf]) rfl ?_
                  rw [HE.out]
                  exact ⟨_, rfl, rd_leaf _ _ _ _ _ (by decide), qq, hqq, HL2.out, hr2.four hne _ _ _ _, (ha01.trans (ha2.mono (by omega))).four (Nat.le_refl _) _ _ _ _⟩
              · have HU := Lib.hid (show pv (f + 1) dep d t l = _ by rw [pv, if_neg h91, if_neg h123, if_neg h34, if_neg h110, if_neg h116, if_neg h102, HD.out])
                have k91 : (((hd (sk l)).toNat : Int) == 91) = false := ne_u8 h91
                have k123 : (((hd (sk l)).toNat : Int) == 123) = false := ne_u8 h123
                have k34 : (((hd (sk l)).toNat : Int) == 34) = false := ne_u8 h34
                have k110 : (((hd (sk l)).toNat : Int) == 110) = false := ne_u8 h110
                have k116 : (((hd (sk l)).toNat : Int) == 116) = false := ne_u8 h116
                have k102 : (((hd (sk l)).toNat : Int) == 102) = false := ne_u8 h102
                clear h91 h123 h34 h110 h116 h102
                generalize ((hd (sk l)).toNat : Int) = z at *
                have HC := jnumber_any R s q1 true t w1 HR1.out hq1 hs
                rw [HL1.out] at HC
                cases ho : numOk (nt (sk l)) with
                | false =>
                  have HE := Lib.hid (show pv (f + 1) dep d t l = none by rw [HU.out, numP, ho]; rfl)
                  have hN : ∀ e w', NumR R s true t w1 (sk l) e w' → Bad R w1 e w' := fun e w' hh => by unfold NumR at hh; rw [ho] at hh; exact hh
                  have HN := Lib.hid hN
                  clear ho hN
                  go_wp2_with fail
                  refine HC.mono ?_
                  rintro e w2 hh
                  have hb := HN.out e w2 hh
                  obtain ⟨rfl, ha2⟩ := hb
                  refine ⟨rfl, ?_⟩
                  rw [HE.out]
                  exact Bad.aw ha01 ⟨rfl, ha2⟩
                | true =>
                  have HE := Lib.hid (show pv (f + 1) dep d t l = some (.mk (if numWhole (nt (sk l)) then 3 else 4) (ofL (nt (sk l))) [] [], nd (sk l), true, t) by rw [HU.out, numP, ho]; rfl)
                  have hN : ∀ e w', NumR R s true t w1 (sk l) e w' → e = .returned (leaf (if numWhole (nt (sk l)) then 3 else 4) (ofL (nt (sk l)))) ∧ Now R s true t w1 (nd (sk l)) w' := fun e w' hh => by unfold NumR at hh; rw [ho] at hh; exact hh
                  have HN := Lib.hid hN
                  have hnt : (nt (sk l)).length ≤ (sk l).length := by unfold nt; rw [List.length_take]; omega
                  clear ho hN
                  generalize (if numWhole (nt (sk l)) then (3 : Int) else 4) = kk at *
                  generalize nt (sk l) = ln at *
                  go_wp2_with fail
                  refine HC.mono ?_
                  rintro e w2 hh
                  obtain ⟨rfl, qq, hqq, hl2, hr2, ha2⟩ := HN.out e w2 hh
                  have hx2 : Bx w2 w.heap.size := HX1.out.keep (ha2.block _ hz1 hne.symm)
                  have HL2 := Lib.hid hl2
                  obtain ⟨q0, q1', q2, q3, qz⟩ := hx2
                  clear hl2 hh
                  unfold leaf
                  go_wp2_with fail
                  refine bodyPost_ret (v := leaf kk (ofL ln)) (by simp [results, Tryd.results31, go_sem, q0, q1', q2, q3, leaf]) rfl ?_
                  rw [HE.out]
                  exact ⟨_, rfl, rd_leaf _ _ _ _ _ (by rw [ofL_size]; omega), qq, hqq, HL2.out, hr2.four hne _ _ _ _, (ha01.trans (ha2.mono (by omega))).four (Nat.le_refl _) _ _ _ _⟩
  | false =>
    have hdc : decide ((12 : Int) < dep) = false := by
      unfold deepB at hdp
      simp only [decide_eq_false_iff_not] at hdp
      simp only [decide_eq_false_iff_not]
      omega
    have HD : Hid ((d || deepB dep) = d) := Lib.hid (by rw [hdp]; exact Bool.or_false d)
    have hr0 : Rdr ((w.alloc (.cells #[.int .i64 0, .string ⟨#[]⟩, .slice none 0 0, .slice none 0 0] 26))) R s p d t := (h.alloc _)
    have ha0 : Aw R w.heap.size w ((w.alloc (.cells #[.int .i64 0, .string ⟨#[]⟩, .slice none 0 0, .slice none 0 0] 26))) := (Aw.refl R w.heap.size w).alloc (Nat.le_refl _) _
    have hx0 : Bx ((w.alloc (.cells #[.int .i64 0, .string ⟨#[]⟩, .slice none 0 0, .slice none 0 0] 26))) w.heap.size := Bx.new w
    have fz := h.fz
    have c2 := h.c2
    have HNX := next_any R s p d t _ hr0 hp hs
    rw [hlp] at HNX
    have HLP := Lib.hid hlp
    have HX0 := Lib.hid hx0
    have hz0 := hx0.lt
    clear hlp hdp hx0 h hr0
    go_enter Tryd.func31, Tryd.ntmps31
    go_wp2_with fail
    refine HNX.mono ?_
    rintro e w1 ⟨rfl, q1, hq1, hl1, hr1, ha1⟩
    have ha01 : Aw R w.heap.size w w1 := ha0.trans (ha1.mono (by omega))
    have hx1 : Bx w1 w.heap.size := HX0.out.keep (ha1.block _ (by omega) hne.symm)
    have hz1 := hx1.lt
    have HX1 := Lib.hid hx1
    have HR1 := Lib.hid hr1
    have HL1 := Lib.hid hl1
    clear hx1 ha1 ha0 hl1 HX0 hz0 hdc c2 fz
    clear HNX
    by_cases h91 : hd (sk l) = 91
    · have HU := Lib.hid (show pv (f + 1) dep d t l = _ by rw [pv, if_pos h91, HD.out])
      have k91 := Lib.hid h91
      rw [h91]
      clear h91
      have HC := list_any R s f dep q1 d t w1 HR1.out hq1 hs hdep (by rw [HL1.out]; exact HF.out) HI.out (by rw [HL1.out, sk_sk]; exact k91.out)
      rw [HL1.out, sk_sk] at HC
      cases ho : listP (pv f (dep + 1)) f d t ((sk l).drop 1) with
      | none =>
        rw [ho] at HC HU
        clear ho
        go_wp2_with fail
        refine HC.mono ?_
        rintro e w2 hb
        have hb2 : Bad R w1 e w2 := hb
        obtain ⟨rfl, ha2⟩ := hb2
        refine ⟨rfl, ?_⟩
        rw [HU.out]
        exact Bad.aw ha01 hb
      | some o =>
        obtain ⟨x, r, d2, t2⟩ := o
        rw [ho] at HC HU
        clear ho
        go_wp2_with fail
        refine HC.mono ?_
        rintro e w2 ⟨v, rfl, hR, qq, hqq, hl2, hr2, ha2⟩
        obtain ⟨an, cn, ap, cp, rfl⟩ := hR.shape
        have hx2 : Bx w2 w.heap.size := HX1.out.keep (ha2.block _ hz1 hne.symm)
        have HL2 := Lib.hid hl2
        obtain ⟨q0, q1', q2, q3, qz⟩ := hx2
        clear hl2
        go_wp2_with fail
        refine bodyPost_ret (v := .agg #[.int .i64 x.k, .string x.s, .slice an x.ns.length cn, .slice ap x.ps.length cp]) (by simp [results, Tryd.results31, go_sem, q0, q1', q2, q3]) rfl ?_
        rw [HU.out]
        exact ⟨_, rfl, rd_boxed hz1 hR _ _ _ _, qq, hqq, HL2.out, hr2.four hne _ _ _ _, (ha01.trans (ha2.mono (by omega))).four (Nat.le_refl _) _ _ _ _⟩
    · by_cases h123 : hd (sk l) = 123
      · have HU := Lib.hid (show pv (f + 1) dep d t l = _ by rw [pv, if_neg h91, if_pos h123, HD.out])
        have k91 := ne_u8 h91
        have k123 := Lib.hid h123
        rw [h123]
        rw [h123] at k91
        clear h91 h123
        have HC := object_any R s f dep q1 d t w1 HR1.out hq1 hs hdep (by rw [HL1.out]; exact HF.out) HI.out (by rw [HL1.out, sk_sk]; exact k123.out)
        rw [HL1.out, sk_sk] at HC
        cases ho : objP (pv f (dep + 1)) f d t ((sk l).drop 1) with
        | none =>
          rw [ho] at HC HU
          clear ho
          go_wp2_with fail
          refine HC.mono ?_
          rintro e w2 hb
          have hb2 : Bad R w1 e w2 := hb
          obtain ⟨rfl, ha2⟩ := hb2
          refine ⟨rfl, ?_⟩
          rw [HU.out]
          exact Bad.aw ha01 hb
        | some o =>
          obtain ⟨x, r, d2, t2⟩ := o
          rw [ho] at HC HU
          clear ho
          go_wp2_with fail
          refine HC.mono ?_
          rintro e w2 ⟨v, rfl, hR, qq, hqq, hl2, hr2, ha2⟩
          obtain ⟨an, cn, ap, cp, rfl⟩ := hR.shape
          have hx2 : Bx w2 w.heap.size := HX1.out.keep (ha2.block _ hz1 hne.symm)
          have HL2 := Lib.hid hl2
          obtain ⟨q0, q1', q2, q3, qz⟩ := hx2
          clear hl2
          go_wp2_with fail
          refine bodyPost_ret (v := .agg #[.int .i64 x.k, .string x.s, .slice an x.ns.length cn, .slice ap x.ps.length cp]) (by simp [results, Tryd.results31, go_sem, q0, q1', q2, q3]) rfl ?_
          rw [HU.out]
          exact ⟨_, rfl, rd_boxed hz1 hR _ _ _ _, qq, hqq, HL2.out, hr2.four hne _ _ _ _, (ha01.trans (ha2.mono (by omega))).four (Nat.le_refl _) _ _ _ _⟩
      · by_cases h34 : hd (sk l) = 34
        · have HU := Lib.hid (show pv (f + 1) dep d t l = _ by rw [pv, if_neg h91, if_neg h123, if_pos h34, HD.out])
          have k91 := ne_u8 h91
          have k123 := ne_u8 h123
          have k34 := Lib.hid h34
          rw [h34]
          rw [h34] at k91
          rw [h34] at k123
          clear h91 h123 h34
          have hqs : q1 < s.size := by
            have h1 := hd_pos k34.out (by decide)
            rw [← HL1.out, len_drop] at h1
            omega
          have HC := quoted_any R s q1 d t w1 HR1.out hqs hs
          rw [HL1.out] at HC
          cases ho : qt (sk l) with
          | none =>
            rw [ho] at HC HU
            clear ho
            go_wp2_with fail
            refine HC.mono ?_
            rintro e w2 hb
            have hb2 : Bad R w1 e w2 := hb
            obtain ⟨rfl, ha2⟩ := hb2
            refine ⟨rfl, ?_⟩
            rw [HU.out]
            exact Bad.aw ha01 hb
          | some o =>
            obtain ⟨tx, r⟩ := o
            have htx := qt_len ho
            rw [ho] at HC HU
            clear ho
            go_wp2_with fail
            refine HC.mono ?_
            rintro e w2 ⟨rfl, qq, hqq, hl2, hr2, ha2⟩
            have hx2 : Bx w2 w.heap.size := HX1.out.keep (ha2.block _ hz1 hne.symm)
            have HL2 := Lib.hid hl2
            obtain ⟨q0, q1', q2, q3, qz⟩ := hx2
            clear hl2
            go_wp2_with fail
            refine bodyPost_ret (v := leaf 5 (ofL tx)) (by simp [results, Tryd.results31, go_sem, q0, q1', q2, q3, leaf]) rfl ?_
            rw [HU.out]
            exact ⟨_, rfl, rd_leaf _ _ _ _ _ (by show tx.length ≤ _; omega), qq, hqq, HL2.out, hr2.four hne _ _ _ _, (ha01.trans (ha2.mono (by omega))).four (Nat.le_refl _) _ _ _ _⟩
        · by_cases h110 : hd (sk l) = 110
          · have HU := Lib.hid (show pv (f + 1) dep d t l = _ by rw [pv, if_neg h91, if_neg h123, if_neg h34, if_pos h110, HD.out])
            have k91 := ne_u8 h91
            have k123 := ne_u8 h123
            have k34 := ne_u8 h34
            have k110 := Lib.hid h110
            rw [h110]
            rw [h110] at k91
            rw [h110] at k123
            rw [h110] at k34
            clear h91 h123 h34 h110
            cases ho : Lib.hasPrefix (sk l) wNull with
            | false =>
              have HE := Lib.hid (show pv (f + 1) dep d t l = none by rw [HU.out, wordP, ho]; rfl)
              have HC := word_no ⟨#[110, 117, 108, 108]⟩ R s q1 d t w1 HR1.out hq1 (by rw [HL1.out]; exact ho)
              clear ho
              go_wp2_with fail
              refine HC.mono ?_
              rintro e w2 ⟨rfl, ha2⟩
              refine ⟨rfl, ?_⟩
              rw [HE.out]
              exact Bad.aw ha01 ⟨rfl, ha2⟩
            | true =>
              have HE := Lib.hid (show pv (f + 1) dep d t l = some (.mk 1 e0 [] [], (sk l).drop 4, d, t) by rw [HU.out, wordP, ho]; rfl)
              have HC := word_yes ⟨#[110, 117, 108, 108]⟩ R s q1 d t w1 HR1.out hq1 hs (by rw [HL1.out]; exact ho)
              rw [HL1.out] at HC
              clear ho
              go_wp2_with fail
              refine HC.mono ?_
              rintro e w2 ⟨rfl, qq, hqq, hl2, hr2, ha2⟩
              have hx2 : Bx w2 w.heap.size := HX1.out.keep (ha2.block _ hz1 hne.symm)
              have HL2 := Lib.hid hl2
              obtain ⟨q0, q1', q2, q3, qz⟩ := hx2
              clear hl2
              go_wp2_with fail
              refine bodyPost_ret (v := leaf 1 e0) (by simp [results, Tryd.results31, go_sem, q0, q1', q2, q3, leaf, e0]) rfl ?_
              rw [HE.out]
              exact ⟨_, rfl, rd_leaf _ _ _ _ _ (by decide), qq, hqq, HL2.out, hr2.four hne _ _ _ _, (ha01.trans (ha2.mono (by omega))).four (Nat.le_refl _) _ _ _ _⟩
          · by_cases h116 : hd (sk l) = 116
            · have HU := Lib.hid (show pv (f + 1) dep d t l = _ by rw [pv, if_neg h91, if_neg h123, if_neg h34, if_neg h110, if_pos h116, HD.out])
              have k91 := ne_u8 h91
              have k123 := ne_u8 h123
              have k34 := ne_u8 h34
              have k110 := ne_u8 h110
              have k116 := Lib.hid h116
              rw [h116]
              rw [h116] at k91
              rw [h116] at k123
              rw [h116] at k34
              rw [h116] at k110
              clear h91 h123 h34 h110 h116
              cases ho : Lib.hasPrefix (sk l) wTrue with
              | false =>
                have HE := Lib.hid (show pv (f + 1) dep d t l = none by rw [HU.out, wordP, ho]; rfl)
                have HC := truth_no ⟨#[116, 114, 117, 101]⟩ R s q1 d t w1 HR1.out hq1 (by rw [HL1.out]; exact ho)
                clear ho
                go_wp2_with fail
                refine HC.mono ?_
                rintro e w2 ⟨rfl, ha2⟩
                refine ⟨rfl, ?_⟩
                rw [HE.out]
                exact Bad.aw ha01 ⟨rfl, ha2⟩
              | true =>
                have HE := Lib.hid (show pv (f + 1) dep d t l = some (.mk 2 (ofL wTrue) [] [], (sk l).drop 4, d, t) by rw [HU.out, wordP, ho]; rfl)
                have HC := truth_yes ⟨#[116, 114, 117, 101]⟩ R s q1 d t w1 HR1.out hq1 hs (by rw [HL1.out]; exact ho)
                rw [HL1.out] at HC
                clear ho
                go_wp2_with fail
                refine HC.mono ?_
                rintro e w2 ⟨rfl, qq, hqq, hl2, hr2, ha2⟩
                have hx2 : Bx w2 w.heap.size := HX1.out.keep (ha2.block _ hz1 hne.symm)
                have HL2 := Lib.hid hl2
                obtain ⟨q0, q1', q2, q3, qz⟩ := hx2
                clear hl2
                unfold leaf
                go_wp2_with fail
                refine bodyPost_ret (v := leaf 2 ⟨#[116, 114, 117, 101]⟩) (by simp [results, Tryd.results31, go_sem, q0, q1', q2, q3, leaf]) rfl ?_
                rw [HE.out]
                exact ⟨_, rfl, rd_leaf _ _ _ _ _ (by decide), qq, hqq, HL2.out, hr2.four hne _ _ _ _, (ha01.trans (ha2.mono (by omega))).four (Nat.le_refl _) _ _ _ _⟩
            · by_cases h102 : hd (sk l) = 102
              · have HU := Lib.hid (show pv (f + 1) dep d t l = _ by rw [pv, if_neg h91, if_neg h123, if_neg h34, if_neg h110, if_neg h116, if_pos h102, HD.out])
                have k91 := ne_u8 h91
                have k123 := ne_u8 h123
                have k34 := ne_u8 h34
                have k110 := ne_u8 h110
                have k116 := ne_u8 h116
                have k102 := Lib.hid h102
                rw [h102]
                rw [h102] at k91
                rw [h102] at k123
                rw [h102] at k34
                rw [h102] at k110
                rw [h102] at k116
                clear h91 h123 h34 h110 h116 h102
                cases ho : Lib.hasPrefix (sk l) wFalse with
                | false =>
                  have HE := Lib.hid (show pv (f + 1) dep d t l = none by rw [HU.out, wordP, ho]; rfl)
                  have HC := truth_no ⟨#[102, 97, 108, 115, 101]⟩ R s q1 d t w1 HR1.out hq1 (by rw [HL1.out]; exact ho)
                  clear ho
                  go_wp2_with fail
                  refine HC.mono ?_
                  rintro e w2 ⟨rfl, ha2⟩
                  refine ⟨rfl, ?_⟩
                  rw [HE.out]
                  exact Bad.aw ha01 ⟨rfl, ha2⟩
                | true =>
                  have HE := Lib.hid (show pv (f + 1) dep d t l = some (.mk 2 (ofL wFalse) [] [], (sk l).drop 5, d, t) by rw [HU.out, wordP, ho]; rfl)
                  have HC := truth_yes ⟨#[102, 97, 108, 115, 101]⟩ R s q1 d t w1 HR1.out hq1 hs (by rw [HL1.out]; exact ho)
                  rw [HL1.out] at HC
                  clear ho
                  go_wp2_with fail
                  refine HC.mono ?_
                  rintro e w2 ⟨rfl, qq, hqq, hl2, hr2, ha2⟩
                  have hx2 : Bx w2 w.heap.size := HX1.out.keep (ha2.block _ hz1 hne.symm)
                  have HL2 := Lib.hid hl2
                  obtain ⟨q0, q1', q2, q3, qz⟩ := hx2
                  clear hl2
                  unfold leaf
                  go_wp2_with fail
                  refine bodyPost_ret (v := leaf 2 ⟨#[102, 97, 108, 115, 101]⟩) (by simp [results, Tryd.results31, go_sem, q0, q1', q2, q3, leaf]) rfl ?_
                  rw [HE.out]
                  exact ⟨_, rfl, rd_leaf _ _ _ _ _ (by decide), qq, hqq, HL2.out, hr2.four hne _ _ _ _, (ha01.trans (ha2.mono (by omega))).four (Nat.le_refl _) _ _ _ _⟩
              · have HU := Lib.hid (show pv (f + 1) dep d t l = _ by rw [pv, if_neg h91, if_neg h123, if_neg h34, if_neg h110, if_neg h116, if_neg h102, HD.out])
                have k91 : (((hd (sk l)).toNat : Int) == 91) = false := ne_u8 h91
                have k123 : (((hd (sk l)).toNat : Int) == 123) = false := ne_u8 h123
                have k34 : (((hd (sk l)).toNat : Int) == 34) = false := ne_u8 h34
                have k110 : (((hd (sk l)).toNat : Int) == 110) = false := ne_u8 h110
                have k116 : (((hd (sk l)).toNat : Int) == 116) = false := ne_u8 h116
                have k102 : (((hd (sk l)).toNat : Int) == 102) = false := ne_u8 h102
                clear h91 h123 h34 h110 h116 h102
                generalize ((hd (sk l)).toNat : Int) = z at *
                have HC := jnumber_any R s q1 d t w1 HR1.out hq1 hs
                rw [HL1.out] at HC
                cases ho : numOk (nt (sk l)) with
                | false =>
                  have HE := Lib.hid (show pv (f + 1) dep d t l = none by rw [HU.out, numP, ho]; rfl)
                  have hN : ∀ e w', NumR R s d t w1 (sk l) e w' → Bad R w1 e w' := fun e w' hh => by unfold NumR at hh; rw [ho] at hh; exact hh
                  have HN := Lib.hid hN
                  clear ho hN
                  go_wp2_with fail
                  refine HC.mono ?_
                  rintro e w2 hh
                  have hb := HN.out e w2 hh
                  obtain ⟨rfl, ha2⟩ := hb
                  refine ⟨rfl, ?_⟩
                  rw [HE.out]
                  exact Bad.aw ha01 ⟨rfl, ha2⟩
                | true =>
                  have HE := Lib.hid (show pv (f + 1) dep d t l = some (.mk (if numWhole (nt (sk l)) then 3 else 4) (ofL (nt (sk l))) [] [], nd (sk l), d, t) by rw [HU.out, numP, ho]; rfl)
                  have hN : ∀ e w', NumR R s d t w1 (sk l) e w' → e = .returned (leaf (if numWhole (nt (sk l)) then 3 else 4) (ofL (nt (sk l)))) ∧ Now R s d t w1 (nd (sk l)) w' := fun e w' hh => by unfold NumR at hh; rw [ho] at hh; exact hh
                  have HN := Lib.hid hN
                  have hnt : (nt (sk l)).length ≤ (sk l).length := by unfold nt; rw [List.length_take]; omega
                  clear ho hN
                  generalize (if numWhole (nt (sk l)) then (3 : Int) else 4) = kk at *
                  generalize nt (sk l) = ln at *
                  go_wp2_with fail
                  refine HC.mono ?_
                  rintro e w2 hh
                  obtain ⟨rfl, qq, hqq, hl2, hr2, ha2⟩ := HN.out e w2 hh
                  have hx2 : Bx w2 w.heap.size := HX1.out.keep (ha2.block _ hz1 hne.symm)
                  have HL2 := Lib.hid hl2
                  obtain ⟨q0, q1', q2, q3, qz⟩ := hx2
                  clear hl2 hh
                  unfold leaf
                  go_wp2_with fail
                  refine bodyPost_ret (v := leaf kk (ofL ln)) (by simp [results, Tryd.results31, go_sem, q0, q1', q2, q3, leaf]) rfl ?_
                  rw [HE.out]
                  exact ⟨_, rfl, rd_leaf _ _ _ _ _ (by rw [ofL_size]; omega), qq, hqq, HL2.out, hr2.four hne _ _ _ _, (ha01.trans (ha2.mono (by omega))).four (Nat.le_refl _) _ _ _ _⟩

theorem value_any (R : Nat) (s : ByteArray) (hs : s.size ≤ 4000) : ∀ (f dep : Nat), dep + f ≤ 4500 → ValOk R s f dep
  | 0, _, _ => fun p d t W _ _ hf => absurd hf (by omega)
  | f + 1, dep, hd => value_step R s hs f dep (by omega) (value_any R s hs f (dep + 1) (by omega))

end Go.Proofs.YtbcenaljaoejkaaDoor
