/-
  The document's reader of layer 3: lists.
-/
import Derived.Test.YtbcenaljaoejkaaDoorMPs1
import Derived.Test.YtbcenaljaoejkaaDoorMPs3
import Derived.Test.YtbcenaljaoejkaaDoorMPs2
namespace Go.Proofs.YtbcenaljaoejkaaDoor
open Go.RowKit

/-- What the document's value and list answer: something that reads as a value, in new blocks; if there is one it is that, else the reader is bad. -/
def PVIs (R : Nat) (s : ByteArray) (n : Nat) (w : World) (o : Option PR) (e : Ending) (w' : World) : Prop :=
  ∃ (x : JV) (v : Value) (p' : Nat) (b' d' t' : Bool), e = .returned v ∧ RdD w' (fun b => w.heap.size ≤ b ∧ b < w'.heap.size) n x v ∧ p' ≤ s.size ∧ PS w' R s p' b' d' t' ∧ Aw R w.heap.size w w' ∧ (b' = false → o = some (x, s.data.toList.drop p', d', t')) ∧ (b' = true → o = none)

def PValOk (R : Nat) (s : ByteArray) (f dep : Nat) : Prop :=
  ∀ (p : Nat) (d t : Bool) (W : World), PS W R s p false d t → p ≤ s.size → (s.data.toList.drop p).length < f →
    Calls Tryd.prog 16 #[.pointer (some ⟨R, 0, none⟩), .int .i64 dep] W (PVIs R s f W (pv f dep d t (s.data.toList.drop p)))

def PLRel (w : World) (R : Nat) (s : ByteArray) (f : Nat) (V : Rdg) (RES : Option PR) (k : Nat) (wr : World) : Prop :=
  ∃ (j : Nat) (xs : List JV) (b d t : Bool) (cs : List Value) (vN vL : Value) (q : Nat), j = k ∧ q ≤ s.size ∧ xs.length ≤ s.size ∧ PS wr R s q b d t ∧ JSt w R R 7 f [] xs cs vN vL wr ∧
    (b = false → (s.data.toList.drop q).length < f ∧ (s.data.toList.drop q).length < j ∧ xs.length + (s.data.toList.drop q).length + 1 ≤ s.size ∧ listGo V j (s.data.toList.drop q) xs d t = RES) ∧ (b = true → RES = none)

set_option maxHeartbeats 8000000 in
set_option maxRecDepth 100000 in
theorem plist_any (R : Nat) (s : ByteArray) (f dep p : Nat) (d t : Bool) (w : World) (h : PS w R s p false d t) (hp1 : 1 ≤ p) (hp : p ≤ s.size) (hs : s.size ≤ 4000) (hdep : dep ≤ 5000) (hf : (s.data.toList.drop p).length < f) (ih : PValOk R s f (dep + 1)) :
    Calls Tryd.prog 25 #[.pointer (some ⟨R, 0, none⟩), .bool false, .int .u8 93, .int .i64 dep] w (PVIs R s (f + 1) w (listP (pv f (dep + 1)) f d t (s.data.toList.drop p))) := by
  obtain ⟨i2, hi2, hz20, hz21, hz22⟩ := info_parts infoVal
  have HI := Lib.hid ih
  have hRlt := h.lt
  clear ih
  have hR : R ≠ w.heap.size := by omega
  obtain ⟨W1, hW1⟩ : ∃ W1, W1 = (w.alloc (.cells #[.int .i64 0, .string ⟨#[]⟩, .slice none 0 0, .slice none 0 0] 26)).alloc (.cells #[.int .i64 7, .string ⟨#[]⟩, .slice none 0 0, .slice none 0 0] 26) := ⟨_, rfl⟩
  have hs1 : W1.heap.size = w.heap.size + 2 := by rw [hW1]; simp
  have hr1 : PS W1 R s p false d t := by rw [hW1]; exact (h.alloc _).alloc _
  have hj1 : ∀ W2, Aw R W1.heap.size W1 W2 → JSt w R R 7 f [] [] [] (.slice none 0 0) (.slice none 0 0) W2 := fun W2 ha => jst_init w W2 R R 7 f hRlt (.inl rfl) (by rw [hW1] at ha; exact ha.mono (by simp))
  have HW1 := Lib.hid hW1
  clear hW1
  by_cases h93 : hd (sk (s.data.toList.drop p)) = 93
  · have HT := pis_yes 93 R s p false d t W1 hr1 hp (by omega) h93 (by decide)
    have HU := Lib.hid (show listP (pv f (dep + 1)) f d t (s.data.toList.drop p) = some (.mk 7 e0 [] [], (sk (s.data.toList.drop p)).drop 1, d, t) by unfold listP; rw [if_pos h93])
    clear h93
    go_enter Tryd.func25, Tryd.ntmps25
    go_upto_region 4 with fail
    rw [← HW1.out]
    go_wp2_with fail
    refine HT.mono ?_
    rintro e w2 ⟨rfl, q2, hq2, hl2, hr2, ha2⟩
    have hst := hj1 w2 ha2
    have HST := Lib.hid hst
    have HL2 := Lib.hid hl2
    obtain ⟨_, hsz, b0, b1, b2, b3, bf, ⟨r0, r1, r2, r3, rf⟩, _⟩ := hst
    clear hl2
    go_wp2_with fail
    refine bodyPost_ret (v := .agg #[.int .i64 7, .string ⟨#[]⟩, .slice none 0 0, .slice none 0 0]) (by simp [results, Tryd.results25, go_sem, r0, r1, r2, r3]) rfl ?_
    rw [HU.out]
    exact ⟨_, _, q2, false, d, t, rfl, HST.out.done (by simp) (by simp) (by simp) _ (fun b o hb => World.cell?_of_block (a := ⟨b, o, none⟩) (heap_four _ _ _ _ _ _ _ hb)) (size_four _ _ _ _ _ _), hq2, PS.keep hr2 (heap_four _ _ _ _ _ _ _ hR), HST.out.aw.four (Nat.le_refl _) _ _ _ _, fun _ => by rw [HL2.out], fun h => by cases h⟩
  · have HT := pis_no 93 R s p false d t W1 hr1 hp (by omega) h93
    have HU := Lib.hid (show listP (pv f (dep + 1)) f d t (s.data.toList.drop p) = listGo (pv f (dep + 1)) f (s.data.toList.drop p) [] d t by unfold listP; rw [if_neg h93])
    clear h93
    go_enter Tryd.func25, Tryd.ntmps25
    go_upto_region 4 with fail
    rw [← HW1.out]
    go_wp2_with fail
    refine HT.mono ?_
    rintro e w2 ⟨rfl, q2, hq2, hl2, hr2, ha2⟩
    have hst := hj1 w2 ha2
    have HL2 := Lib.hid hl2
    have HST := Lib.hid hst
    have hln : (sk (s.data.toList.drop p)).length < f := Nat.lt_of_le_of_lt (sk_le _) hf
    have hlz : (s.data.toList.drop q2).length + 1 ≤ s.size := by have h1 := sk_le (s.data.toList.drop p); rw [len_drop] at h1; rw [hl2]; omega
    clear hl2 hst hj1 hr1
    go_wp2_with fail
    go_loopg [] f (fun k wr => PLRel w R s f (pv f (dep + 1)) (listP (pv f (dep + 1)) f d t (s.data.toList.drop p)) k wr)
    case atStart => exact ⟨f, [], false, d, t, [], _, _, q2, rfl, hq2, Nat.zero_le _, hr2, HST.out, fun _ => ⟨by rw [HL2.out]; exact hln, by rw [HL2.out]; exact hln, by simpa using hlz, by rw [HU.out, HL2.out, listGo_sk]⟩, fun h => by cases h⟩
    case round =>
      obtain ⟨j, xs, b, d1, t1, cs, vN, vL, q, rfl, hq, hxl, hr, hst, hfalse, htrue⟩ := hrel
      generalize listP (pv f (dep + 1)) f d t (s.data.toList.drop p) = RES at *
      have HF := Lib.hid hfalse
      have HTR := Lib.hid htrue
      clear hfalse htrue
      cases b with
      | true =>
        have HST1 := Lib.hid hst
        have HR1 := Lib.hid hr
        obtain ⟨aL, cL, rfl, hcL, _⟩ := fresh_row hst.oL
        obtain ⟨aN, cN, rfl, hcN, _⟩ := fresh_row hst.oN
        obtain ⟨c0, c1, c2, c3, c4, fz⟩ := hr
        obtain ⟨_, hsz, b0, b1, b2, b3, bf, ⟨r0, r1, r2, r3, rf⟩, _⟩ := hst
        go_wp2_with fail
        refine bodyPost_ret (v := .agg #[.int .i64 7, .string ⟨#[]⟩, .slice aN 0 cN, .slice aL xs.length cL]) (by simp [results, Tryd.results25, go_sem, r0, r1, r2, r3]) rfl ?_
        exact ⟨_, _, q, true, d1, t1, rfl, HST1.out.done (by omega) (by simp) (by simp) _ (fun b o hb => World.cell?_of_block (a := ⟨b, o, none⟩) (heap_four _ _ _ _ _ _ _ hb)) (size_four _ _ _ _ _ _), hq, HR1.out.keep (heap_four _ _ _ _ _ _ _ hR), HST1.out.aw.four (Nat.le_refl _) _ _ _ _, (fun h => by cases h), (fun _ => by first | exact HTR.out rfl | exact HTR.out trivial)⟩
      | false =>
        obtain ⟨hrf, hrk, hxs, hres⟩ := HF.out (by first | rfl | trivial)
        obtain ⟨k, rfl⟩ : ∃ k', j = k' + 1 := ⟨j - 1, by omega⟩
        have hC : ∀ W, PS W R s q false d1 t1 → Calls Tryd.prog 16 #[.pointer (some ⟨R, 0, none⟩), .int .i64 ((dep : Int) + 1)] W (PVIs R s f W (pv f (dep + 1) d1 t1 (s.data.toList.drop q))) := fun W hW => by
          have := HI.out q d1 t1 W hW hq hrf
          rw [show ((dep + 1 : Nat) : Int) = (dep : Int) + 1 by omega] at this
          exact this
        have hwrap : IntKind.i64.wrap ((dep : Int) + 1) = (dep : Int) + 1 := IntWalk.i64_in _ (by omega)
        have HRES := Lib.hid hres
        have HR := Lib.hid hr
        have hRr := hr.lt
        have HC := Lib.hid hC
        obtain ⟨aL, cL, rfl, hcL, _⟩ := fresh_row hst.oL
        obtain ⟨aN, cN, rfl, hcN, _⟩ := fresh_row hst.oN
        have b3 := hst.b3
        have HST1 := Lib.hid hst
        have hszr := hst.sz
        obtain ⟨c0, c1, c2, c3, c4, fz⟩ := hr
        clear hres hC hst HF HTR
        go_upto_region 21 with fail
        clear c0 c1 c2 c3 c4 fz
        go_region_law (first
          | (refine step_append_lies _ rfl (.tmp 92) (.tmp 97) 24 rfl (w.heap.size + 2) 26 i2 (.agg #[.int .i64 0, .string ⟨#[]⟩, .slice none 0 0, .slice none 0 0]) 4 72 Tryd.underlying24 hi2 hz20 hz21 hz22 rfl (by decide) (.slice aL xs.length cL) xs.length cs (by simp [Act.eval]) HA3.out.oL ⟨w3.heap.size, 0, none⟩ 1 1 [.int .i64 x.k, .string x.s, .slice an x.ns.length cn, .slice ap x.ps.length cp] (by simp [Act.eval]) rfl HC4.out HO4.out (by decide) (by unfold maxLen; omega) (by omega) HZ4.out (w3.heap.size + 1) HS4.out ?_; intro g8 cap8 w8 hown8 hg8 hlie8 hl8; obtain ⟨c8, f8⟩ := HA3.out.boxL hg8; have e8 := (c8 3).trans HA3.out.b3; clear c8)
          | (go_simp; (go_at_call 16); (with_reducible refine (HC.out _ HR.out.drew).mono ?_); rintro e w3 ⟨x, v, q3, b3', d2, t2, rfl, hR3, hq3, hr3, ha3, hv1, hv2⟩; obtain ⟨an, cn, ap, cp, rfl⟩ := hR3.shape; have HW := Lib.hid (list_arm HST1.out hRlt hRr ha3.fromDrew hR3); have b33 := HW.out.1; have hlt3 : w.heap.size + 1 < w3.heap.size := (by have h1 := ha3.fromDrew.size; omega); have HA3 := Lib.hid HW.out.2.1; have HX3 := Lib.hid HW.out.2.2; have HC4 := Lib.hid (cell_four_new w3 (.int .i64 x.k) (.string x.s) (.slice an x.ns.length cn) (.slice ap x.ps.length cp) 26); have HO4 := Lib.hid (four_one x.k x.s an x.ns.length cn ap x.ps.length cp); have HZ4 := Lib.hid HA3.out.sz; have HS4 : Hid ((w3.alloc (.cells #[.int .i64 x.k, .string x.s, .slice an x.ns.length cn, .slice ap x.ps.length cp] 26)).heap.size = w3.heap.size + 1) := Lib.hid (by simp); have HV1 := Lib.hid hv1; have HV2 := Lib.hid hv2; have HR3 := Lib.hid hr3; have HA0 := Lib.hid ha3; clear hv1 hv2 hr3 ha3 hR3 HW))
        all_goals
          have hm8 := HA3.out.list HX3.out hown8 hg8 (by
            rcases hlie8 with e | e
            · exact .inl e.symm
            · exact .inr (by rw [HS4.out, e]; rfl)) (by rw [HS4.out]; omega)
          have hr8 : PS (w8.setCell ⟨w.heap.size + 1, 3, none⟩ (.slice (some ⟨g8, 0, none⟩) (xs.length + 1) cap8)) R s q3 b3' d2 t2 := by
            refine PS.setOther ?_ (by show R ≠ w.heap.size + 1; omega) _
            refine (HR3.out.alloc _).keep (hg8.block R (by rw [HS4.out]; omega) (fun e => ?_))
            have := (HA3.out.oL.lt R (by first | exact e | exact e.symm)).1
            omega
          generalize w8.setCell ⟨w.heap.size + 1, 3, none⟩ (.slice (some ⟨g8, 0, none⟩) (xs.length + 1) cap8) = W4 at *
          have HM8 := Lib.hid hm8
          clear hm8 e8 f8 hg8 hown8 hlie8 HC4 HO4 HZ4 HS4 HX3 HA3 HA0 b33
          have HN := Lib.hid (show RES = match pv f (dep + 1) d1 t1 (s.data.toList.drop q) with
            | none => none
            | some (x, r1, d2, t2) => if hd (sk r1) = 93 then some (.mk 7 e0 [] (xs ++ [x]), (sk r1).drop 1, d2, t2) else if hd (sk r1) = 44 then listGo (pv f (dep + 1)) k ((sk r1).drop 1) (xs ++ [x]) d2 t2 else none by rw [← HRES.out, listGo]; rfl)
          have HB := Lib.hid (show b3' = true → RES = none from fun hb => by rw [HN.out, HV2.out hb])
          have hxl2 : (xs ++ [x]).length ≤ s.size := by rw [List.length_append, List.length_singleton]; omega
          by_cases h93 : hd (sk (s.data.toList.drop q3)) = 93
          · have HT := pis_yes 93 R s q3 b3' d2 t2 W4 hr8 hq3 (by omega) h93 (by decide)
            have HE := Lib.hid (show b3' = false → RES = some (.mk 7 e0 [] (xs ++ [x]), (sk (s.data.toList.drop q3)).drop 1, d2, t2) from fun hb => by
              rw [HN.out, HV1.out hb]
              show (if hd (sk (s.data.toList.drop q3)) = 93 then _ else _) = _
              rw [if_pos h93])
            clear h93
            go_wp2_with fail
            refine HT.mono ?_
            rintro e w9 ⟨rfl, q9, hq9, hl9, hr9, ha9⟩
            have hm9 := HM8.out.grow hRlt (Aw2.ofAw ha9 R)
            have HM9 := Lib.hid hm9
            have HL9 := Lib.hid hl9
            obtain ⟨_, hsz, b0, b1, b2, b3, bf, ⟨r0, r1', r2, r3, rf⟩, _⟩ := hm9
            clear hl9
            go_wp2_with fail
            refine bodyPost_ret (v := .agg #[.int .i64 7, .string ⟨#[]⟩, .slice aN 0 cN, .slice (some ⟨g8, 0, none⟩) (xs.length + 1) cap8]) (by simp [results, Tryd.results25, go_sem, r0, r1', r2, r3]) rfl ?_
            exact ⟨_, _, q9, b3', d2, t2, rfl, HM9.out.done (by omega) (by simp) (by simp) _ (fun b o hb => World.cell?_of_block (a := ⟨b, o, none⟩) (heap_four _ _ _ _ _ _ _ hb)) (size_four _ _ _ _ _ _), hq9, hr9.keep (heap_four _ _ _ _ _ _ _ hR), HM9.out.aw.four (Nat.le_refl _) _ _ _ _, (fun hb => by rw [HE.out hb, HL9.out]), HB.out⟩
          · have HT := pis_no 93 R s q3 b3' d2 t2 W4 hr8 hq3 (by omega) h93
            by_cases h44 : hd (sk (s.data.toList.drop q3)) = 44
            · have HE := Lib.hid (show b3' = false → RES = listGo (pv f (dep + 1)) k ((sk (s.data.toList.drop q3)).drop 1) (xs ++ [x]) d2 t2 from fun hb => by
                rw [HN.out, HV1.out hb]
                show (if hd (sk (s.data.toList.drop q3)) = 93 then _ else if hd (sk (s.data.toList.drop q3)) = 44 then _ else _) = _
                rw [if_neg h93, if_pos h44])
              have hpos := hd_pos h44 (by decide)
              have hsk3 := sk_le (s.data.toList.drop q3)
              have HLT := Lib.hid (show b3' = false → (s.data.toList.drop q3).length < (s.data.toList.drop q).length from fun hb => pv_less f (dep + 1) _ _ _ _ _ _ _ (HV1.out hb))
              have H44 := Lib.hid h44
              clear h93 h44
              go_wp2_with fail
              refine HT.mono ?_
              rintro e w9 ⟨rfl, q9, hq9, hl9, hr9, ha9⟩
              have hm9 := HM8.out.grow hRlt (Aw2.ofAw ha9 R)
              have HT2 := pis_yes 44 R s q9 b3' d2 t2 w9 hr9 hq9 (by omega) (by rw [hl9, sk_sk]; exact H44.out) (by decide)
              rw [hl9, sk_sk] at HT2
              have HM9 := Lib.hid hm9
              clear hl9 hm9
              go_wp2_with fail
              refine HT2.mono ?_
              rintro e w10 ⟨rfl, q10, hq10, hl10, hr10, ha10⟩
              have hm10 := HM9.out.grow hRlt (Aw2.ofAw ha10 R)
              have HL10 := Lib.hid hl10
              clear hl10
              have hdl : ((sk (s.data.toList.drop q3)).drop 1).length < (s.data.toList.drop q3).length := by rw [List.length_drop]; omega
              go_wp2_with fail
              go_roundg k
              case measure => omega
              case rel => exact ⟨k, xs ++ [x], b3', d2, t2, _, _, _, q10, rfl, hq10, hxl2, hr10, hm10, (fun hb => by
                have h1 := HLT.out hb
                rw [HL10.out]
                exact ⟨by omega, by omega, by rw [List.length_append, List.length_singleton]; omega, (HE.out hb).symm⟩), HB.out⟩
            · have HE := Lib.hid (show RES = none by
                cases b3' with
                | true => exact HB.out rfl
                | false =>
                  rw [HN.out, HV1.out rfl]
                  show (if hd (sk (s.data.toList.drop q3)) = 93 then _ else if hd (sk (s.data.toList.drop q3)) = 44 then _ else _) = _
                  rw [if_neg h93, if_neg h44])
              have H44 := Lib.hid h44
              clear h93 h44
              go_wp2_with fail
              refine HT.mono ?_
              rintro e w9 ⟨rfl, q9, hq9, hl9, hr9, ha9⟩
              have hm9 := HM8.out.grow hRlt (Aw2.ofAw ha9 R)
              have HT2 := pis_no 44 R s q9 b3' d2 t2 w9 hr9 hq9 (by omega) (by rw [hl9, sk_sk]; exact H44.out)
              have HM9 := Lib.hid hm9
              clear hl9 hm9
              go_wp2_with fail
              refine HT2.mono ?_
              rintro e w10 ⟨rfl, q10, hq10, hl10, hr10, ha10⟩
              have hm10 := HM9.out.grow hRlt (Aw2.ofAw ha10 R)
              have HR10 := Lib.hid hr10
              have HM10 := Lib.hid hm10
              obtain ⟨c0, c1, c2, c3, c4, fz⟩ := hr10
              clear hl10 hm10
              go_wp2_with fail
              go_roundg k
              case measure => omega
              case rel => exact ⟨k, xs ++ [x], true, d2, t2, _, _, _, q10, rfl, hq10, hxl2, HR10.out.setBad true, HM10.out.grow hRlt (Aw2.ofAw ((Aw.refl _ _ _).set _) R), (fun hb => by cases hb), fun _ => HE.out⟩

end Go.Proofs.YtbcenaljaoejkaaDoor

/-
  The document's reader of layer 3: value, where the reader is bad already, or nothing stands there.
-/
namespace Go.Proofs.YtbcenaljaoejkaaDoor
open Go.RowKit

/-- No value: the zero one, and the reader is bad. -/
def PNone (R : Nat) (s : ByteArray) (t : Bool) (w : World) (e : Ending) (w' : World) : Prop :=
  e = .returned (leaf 0 ⟨#[]⟩) ∧ ∃ p' d', p' ≤ s.size ∧ PS w' R s p' true d' t ∧ Aw R w.heap.size w w'

set_option maxHeartbeats 4000000 in
set_option maxRecDepth 100000 in
theorem pvalue_none (R : Nat) (s : ByteArray) (p dep : Nat) (b d t : Bool) (w : World) (h : PS w R s p b d t) (hp : p ≤ s.size) (hs : s.size ≤ 4000) (hdep : dep ≤ 5000) (hb : b = true ∨ sk (s.data.toList.drop p) = []) :
    Calls Tryd.prog 16 #[.pointer (some ⟨R, 0, none⟩), .int .i64 dep] w (PNone R s t w) := by
  have hRlt := h.lt
  have hne : R ≠ w.heap.size := by omega
  have HN := pblanks_any R s p b d t (w.alloc (.cells #[.int .i64 0, .string ⟨#[]⟩, .slice none 0 0, .slice none 0 0] 26)) (h.alloc _) hp hs
  have HB := Lib.hid hb
  have hx0 := Bx.new w
  generalize hl : sk (s.data.toList.drop p) = l at *
  clear h hb hl
  go_enter Tryd.func16, Tryd.ntmps16
  go_wp2_with fail
  refine HN.mono ?_
  rintro e w1 ⟨rfl, q, hq, hl, hr, ha⟩
  have HL := Lib.hid hl
  have HR := Lib.hid hr
  have hbx : Bx w1 w.heap.size := hx0.keep (ha.block w.heap.size (by simp) (by omega))
  have HBX := Lib.hid hbx
  have ha1 : Aw R w.heap.size w w1 := ((Aw.refl R w.heap.size w).alloc (Nat.le_refl _) _).trans (ha.mono (by simp))
  obtain ⟨x0, x1, x2, x3, xz⟩ := hbx
  obtain ⟨c0, c1, c2, c3, c4, fz⟩ := hr
  have hd12 : decide ((12 : Int) < dep) = decide (12 < dep) := by
    rw [Bool.eq_iff_iff, decide_eq_true_eq, decide_eq_true_eq]; omega
  clear hl hx0 ha
  obtain ⟨D, hD⟩ : ∃ D, decide ((12 : Int) < (dep : Int)) = D := ⟨_, rfl⟩
  clear hd12
  cases b with
  | true =>
    cases d with
    | true =>
      go_upto_region 3 with fail
      go_quiet (fail)
      go_wp2_with fail
      refine bodyPost_ret (v := leaf 0 ⟨#[]⟩) (by simp [results, Tryd.results16, go_sem, x0, x1, x2, x3, leaf]) rfl ?_
      exact ⟨rfl, q, true, hq, (((HR.out.setDeep true).drewN _).setBad true).four hne _ _ _ _, (((ha1.set _).drewN _).set _).four (Nat.le_refl _) _ _ _ _⟩
    | false =>
      go_upto_region 3 with fail
      go_quiet (fail)
      go_wp2_with fail
      refine bodyPost_ret (v := leaf 0 ⟨#[]⟩) (by simp [results, Tryd.results16, go_sem, x0, x1, x2, x3, leaf]) rfl ?_
      exact ⟨rfl, q, _, hq, (((HR.out.setDeep _).drewN _).setBad true).four hne _ _ _ _, (((ha1.set _).drewN _).set _).four (Nat.le_refl _) _ _ _ _⟩
  | false =>
    have hlt : ¬ q < s.size := by
      rcases HB.out with e | e
      · cases e
      · intro hlt
        have h1 := HL.out
        rw [e] at h1
        have h2 := congrArg List.length h1
        rw [len_drop] at h2
        simp at h2
        omega
    have hge : decide ((s.size : Int) ≤ q) = true := decide_eq_true (by omega)
    cases d with
    | true =>
      go_upto_region 3 with fail
      go_quiet (fail)
      go_wp2_with fail
      refine bodyPost_ret (v := leaf 0 ⟨#[]⟩) (by simp [results, Tryd.results16, go_sem, x0, x1, x2, x3, leaf]) rfl ?_
      exact ⟨rfl, q, true, hq, (((HR.out.setDeep true).drewN _).setBad true).four hne _ _ _ _, (((ha1.set _).drewN _).set _).four (Nat.le_refl _) _ _ _ _⟩
    | false =>
      go_upto_region 3 with fail
      go_quiet (fail)
      go_wp2_with fail
      refine bodyPost_ret (v := leaf 0 ⟨#[]⟩) (by simp [results, Tryd.results16, go_sem, x0, x1, x2, x3, leaf]) rfl ?_
      exact ⟨rfl, q, _, hq, (((HR.out.setDeep _).drewN _).setBad true).four hne _ _ _ _, (((ha1.set _).drewN _).set _).four (Nat.le_refl _) _ _ _ _⟩

end Go.Proofs.YtbcenaljaoejkaaDoor

/-
  The document's reader of layer 3: objects.
-/
namespace Go.Proofs.YtbcenaljaoejkaaDoor
open Go.RowKit

def POrel (w : World) (R : Nat) (s : ByteArray) (f : Nat) (V : Rdg) (RES : Option PR) (k : Nat) (wr : World) : Prop :=
  ∃ (j : Nat) (ns : List ByteArray) (xs : List JV) (b d t : Bool) (cs : List Value) (vN vL : Value) (q : Nat), j = k ∧ q ≤ s.size ∧ xs.length ≤ s.size ∧ ns.length ≤ s.size ∧ (∀ m ∈ ns, m.size ≤ 16000) ∧ PS wr R s q b d t ∧ JSt w R R 8 f ns xs cs vN vL wr ∧
    (b = false → (s.data.toList.drop q).length < f ∧ (s.data.toList.drop q).length < j ∧ xs.length + (s.data.toList.drop q).length + 1 ≤ s.size ∧ ns.length = xs.length ∧ objGo V j (s.data.toList.drop q) ns xs d t = RES) ∧ (b = true → RES = none)

def TwRel (R : Nat) (s : ByteArray) (q : Nat) (b d t : Bool) (ns : List ByteArray) (T : ByteArray) (w3 : World) (k : Nat) (v : Value) (wr : World) : Prop :=
  ∃ i : Nat, k = ns.length - i ∧ i ≤ ns.length ∧ v = .int .i64 i ∧ PS wr R s q b d (t || ((ns.take i).map vbl).contains (vbl T)) ∧ Aw R w3.heap.size w3 wr
theorem tw_next (ns : List ByteArray) (T : ByteArray) (i : Nat) (h : i < ns.length) (t : Bool) : (t || ((ns.take (i + 1)).map vbl).contains (vbl T)) = ((t || ((ns.take i).map vbl).contains (vbl T)) || ((ns[i]).toList == T.toList)) := by
  rw [List.take_succ_eq_append_getElem h, List.map_append, Bool.or_assoc]
  congr 1
  rw [Bool.eq_iff_iff]
  simp only [Bool.or_eq_true, List.contains_iff_mem, List.mem_append, List.map_cons, List.map_nil, List.mem_singleton, beq_iff_eq, Lib.toList_data]
  exact ⟨fun h => h.elim .inl (fun e => .inr e.symm), fun h => h.elim .inl (fun e => .inr e.symm)⟩

theorem byte_notR (c d : UInt8) (z : Int) (hz : (d.toNat : Int) = z) : ((c.toNat : Int) != z) = decide (c ≠ d) := by
  rw [Bool.eq_iff_iff, bne_iff_ne, decide_eq_true_eq, ← hz]
  exact ⟨fun h e => h (by rw [e]), fun h e => h (UInt8.toNat_inj.1 (by omega))⟩

set_option maxHeartbeats 10000000 in
set_option maxRecDepth 100000 in
theorem pobj_any (R : Nat) (s : ByteArray) (f dep p : Nat) (d t : Bool) (w : World) (h : PS w R s p false d t) (hp1 : 1 ≤ p) (hp : p ≤ s.size) (hs : s.size ≤ 4000) (hdep : dep ≤ 4900) (hf : (s.data.toList.drop p).length < f) (ih : PValOk R s f (dep + 1)) :
    Calls Tryd.prog 25 #[.pointer (some ⟨R, 0, none⟩), .bool true, .int .u8 125, .int .i64 dep] w (PVIs R s (f + 1) w (objP (pv f (dep + 1)) f d t (s.data.toList.drop p))) := by
  obtain ⟨i2, hi2, hz20, hz21, hz22⟩ := info_parts infoVal
  obtain ⟨i3, hi3, hz30, hz31, hz32⟩ := info_parts infoStr
  have HI := Lib.hid ih
  have hRlt := h.lt
  clear ih
  have hR : R ≠ w.heap.size := by omega
  obtain ⟨W1, hW1⟩ : ∃ W1, W1 = (w.alloc (.cells #[.int .i64 0, .string ⟨#[]⟩, .slice none 0 0, .slice none 0 0] 26)).alloc (.cells #[.int .i64 8, .string ⟨#[]⟩, .slice none 0 0, .slice none 0 0] 26) := ⟨_, rfl⟩
  have hs1 : W1.heap.size = w.heap.size + 2 := by rw [hW1]; simp
  have hr1 : PS W1 R s p false d t := by rw [hW1]; exact (h.alloc _).alloc _
  have hj1 : ∀ W2, Aw R W1.heap.size W1 W2 → JSt w R R 8 f [] [] [] (.slice none 0 0) (.slice none 0 0) W2 := fun W2 ha => jst_init w W2 R R 8 f hRlt (.inl rfl) (by rw [hW1] at ha; exact ha.mono (by simp))
  have HW1 := Lib.hid hW1
  clear hW1
  by_cases h125 : hd (sk (s.data.toList.drop p)) = 125
  · have HT := pis_yes 125 R s p false d t W1 hr1 hp (by omega) h125 (by decide)
    have HU := Lib.hid (show objP (pv f (dep + 1)) f d t (s.data.toList.drop p) = some (.mk 8 e0 [] [], (sk (s.data.toList.drop p)).drop 1, d, t) by unfold objP; rw [if_pos h125])
    clear h125
    go_enter Tryd.func25, Tryd.ntmps25
    go_upto_region 4 with fail
    rw [← HW1.out]
    go_wp2_with fail
    refine HT.mono ?_
    rintro e w2 ⟨rfl, q2, hq2, hl2, hr2, ha2⟩
    have hst := hj1 w2 ha2
    have HST := Lib.hid hst
    have HL2 := Lib.hid hl2
    obtain ⟨_, hsz, b0, b1, b2, b3, bf, ⟨r0, r1, r2, r3, rf⟩, _⟩ := hst
    clear hl2
    go_wp2_with fail
    refine bodyPost_ret (v := .agg #[.int .i64 8, .string ⟨#[]⟩, .slice none 0 0, .slice none 0 0]) (by simp [results, Tryd.results25, go_sem, r0, r1, r2, r3]) rfl ?_
    rw [HU.out]
    exact ⟨_, _, q2, false, d, t, rfl, HST.out.done (by simp) (by simp) (by simp) _ (fun b o hb => World.cell?_of_block (a := ⟨b, o, none⟩) (heap_four _ _ _ _ _ _ _ hb)) (size_four _ _ _ _ _ _), hq2, PS.keep hr2 (heap_four _ _ _ _ _ _ _ hR), HST.out.aw.four (Nat.le_refl _) _ _ _ _, fun _ => by rw [HL2.out], fun h => by cases h⟩
  · have HT := pis_no 125 R s p false d t W1 hr1 hp (by omega) h125
    have HU := Lib.hid (show objP (pv f (dep + 1)) f d t (s.data.toList.drop p) = objGo (pv f (dep + 1)) f (s.data.toList.drop p) [] [] d t by unfold objP; rw [if_neg h125])
    clear h125
    go_enter Tryd.func25, Tryd.ntmps25
    go_upto_region 4 with fail
    rw [← HW1.out]
    go_wp2_with fail
    refine HT.mono ?_
    rintro e w2 ⟨rfl, q2, hq2, hl2, hr2, ha2⟩
    have hst := hj1 w2 ha2
    have HL2 := Lib.hid hl2
    have HST := Lib.hid hst
    have hln : (sk (s.data.toList.drop p)).length < f := Nat.lt_of_le_of_lt (sk_le _) hf
    have hlz : (s.data.toList.drop q2).length + 1 ≤ s.size := by have h1 := sk_le (s.data.toList.drop p); rw [len_drop] at h1; rw [hl2]; omega
    clear hl2 hst hj1 hr1
    go_wp2_with fail
    go_loopg [10, 11] f (fun k _ _ wr => POrel w R s f (pv f (dep + 1)) (objP (pv f (dep + 1)) f d t (s.data.toList.drop p)) k wr)
    case atStart => exact ⟨f, [], [], false, d, t, [], _, _, q2, rfl, hq2, Nat.zero_le _, Nat.zero_le _, (fun m hm => by cases hm), hr2, HST.out, fun _ => ⟨by rw [HL2.out]; exact hln, by rw [HL2.out]; exact hln, by simpa using hlz, rfl, by rw [HU.out, HL2.out, objGo_sk]⟩, fun h => by cases h⟩
    case round =>
      obtain ⟨j, ns, xs, b, d1, t1, cs, vN, vL, q, rfl, hq, hxl, hnl, hnz, hr, hst, hfalse, htrue⟩ := hrel
      generalize objP (pv f (dep + 1)) f d t (s.data.toList.drop p) = RES at *
      have HF := Lib.hid hfalse
      have HTR := Lib.hid htrue
      have HNZ := Lib.hid hnz
      clear hfalse htrue hnz
      cases b with
      | true =>
        have HST1 := Lib.hid hst
        have HR1 := Lib.hid hr
        obtain ⟨aL, cL, rfl, hcL, _⟩ := fresh_row hst.oL
        obtain ⟨aN, cN, rfl, hcN, _⟩ := fresh_row hst.oN
        obtain ⟨c0, c1, c2, c3, c4, fz⟩ := hr
        obtain ⟨_, hsz, b0, b1, b2, b3, bf, ⟨r0, r1, r2, r3, rf⟩, _⟩ := hst
        go_wp2_with fail
        refine bodyPost_ret (v := .agg #[.int .i64 8, .string ⟨#[]⟩, .slice aN ns.length cN, .slice aL xs.length cL]) (by simp [results, Tryd.results25, go_sem, r0, r1, r2, r3]) rfl ?_
        exact ⟨_, _, q, true, d1, t1, rfl, HST1.out.done (by omega) (by omega) HNZ.out _ (fun b o hb => World.cell?_of_block (a := ⟨b, o, none⟩) (heap_four _ _ _ _ _ _ _ hb)) (size_four _ _ _ _ _ _), hq, HR1.out.keep (heap_four _ _ _ _ _ _ _ hR), HST1.out.aw.four (Nat.le_refl _) _ _ _ _, (fun h => by cases h), (fun _ => by first | exact HTR.out rfl | exact HTR.out trivial)⟩
      | false =>
        obtain ⟨hrf, hrk, hxs, hnx, hres⟩ := HF.out (by first | rfl | trivial)
        obtain ⟨k, rfl⟩ : ∃ k', j = k' + 1 := ⟨j - 1, by omega⟩
        have HRES := Lib.hid hres
        have HNX := Lib.hid hnx
        have hBk := pblanks_any R s q false d1 t1 wr hr hq (by omega)
        obtain ⟨aL, cL, rfl, hcL, _⟩ := fresh_row hst.oL
        obtain ⟨aN, cN, rfl, hcN, _⟩ := fresh_row hst.oN
        have HST1 := Lib.hid hst
        obtain ⟨c0, c1, c2, c3, c4, fz⟩ := hr
        clear hres hnx hst HF HTR
        go_upto_region 9 with ((go_at_call 17); (with_reducible refine hBk.mono ?_); rintro e w2 ⟨rfl, q1, hq1, hl1, hr1, ha1⟩)
        clear c0 c1 c2 c3 c4 fz hBk
        have hm1 := HST1.out.grow hRlt (Aw2.ofAw ha1 R)
        have HM1 := Lib.hid hm1
        have HR1 := Lib.hid hr1
        have HL1 := Lib.hid hl1
        obtain ⟨c0, c1, c2, c3, c4, fz⟩ := hr1
        clear hl1
        by_cases h34 : hd (sk (s.data.toList.drop q)) = 34
        · have hlt : q1 < s.size := by
            have h1 := hd_pos h34 (by decide)
            rw [← HL1.out, len_drop] at h1
            omega
          have e34 : ((s[q1].toNat : Int) != 34) = false := by
            rw [byte_notR s[q1] 34 34 rfl]
            exact decide_eq_false (fun e => e (by rw [← hd_at s q1 hlt, HL1.out]; exact h34))
          have hge : decide ((s.size : Int) ≤ q1) = false := decide_eq_false (by omega)
          have H34 := Lib.hid h34
          clear h34 hm1
          have hTX : ∀ W, PS W R s q1 false d1 t1 → Calls Tryd.prog 24 #[.pointer (some ⟨R, 0, none⟩)] W (PTx R s d1 t1 W (qt (s.data.toList.drop q1))) := fun W hW => ptext_any R s q1 d1 t1 W hW hlt (by omega)
          go_quiet (fail)
          clear c0 c1 c2 c3 c4 fz
          go_upto_region 13 with ((go_at_call 24); (with_reducible refine (hTX _ (HR1.out.drewN _)).mono ?_); rintro e w3 ⟨T, q3, b3, rfl, hT, hq3, hr3, ha3, hm3⟩)
          have ha13 : Aw R w2.heap.size w2 w3 := ⟨ha3.os, ha3.tape, ha3.output, ha3.size, ha3.block⟩
          have HQ := Lib.hid (show (b3 = false → qt (sk (s.data.toList.drop q)) = some (vbl T, s.data.toList.drop q3)) ∧ (b3 = true → qt (sk (s.data.toList.drop q)) = none) by
            rw [← HL1.out]
            cases hqt : qt (s.data.toList.drop q1) with
            | none => rw [hqt] at hm3; exact ⟨(fun h => by rw [hm3] at h; cases h), fun _ => rfl⟩
            | some o =>
              obtain ⟨nm, r⟩ := o
              rw [hqt] at hm3
              obtain ⟨e1, e2, e3⟩ := hm3
              exact ⟨fun _ => by rw [e2, e3]; rfl, fun h => by rw [e1] at h; cases h⟩)
          have hmm3 := HM1.out.grow hRlt (Aw2.ofAw ha13 R)
          have HM3 := Lib.hid hmm3
          have HR3 := Lib.hid hr3
          have b2c := hmm3.b2
          have hlt3 : w.heap.size + 1 < w3.heap.size := by have := hmm3.sz; omega
          clear hmm3 hm3 ha3 ha13 hTX
          go_wp2_with fail
          go_loopg [11] ns.length (fun k v wr2 => TwRel R s q3 b3 d1 t1 ns T w3 k v wr2)
          case atStart => exact ⟨0, rfl, Nat.zero_le _, rfl, by simpa using HR3.out, Aw.refl _ _ _⟩
          case round =>
            obtain ⟨i, rfl, hi, rfl, hr4, ha4⟩ := hrel
            have hm4 := HM3.out.grow hRlt (Aw2.ofAw ha4 R)
            have HM4 := Lib.hid hm4
            by_cases hlt2 : i < ns.length
            · obtain ⟨aN', cN', e1, _, hN⟩ := fresh_row hm4.oN
              injection e1 with e1 _ e1'
              subst e1 e1'
              obtain ⟨g, rfl, hg1, hg2, _, hg3⟩ := hN (by omega)
              have hcell : wr.cell? ⟨g, i, none⟩ = some (.string ns[i]) := by
                rw [hg3 i (by omega), List.getElem?_map, List.getElem?_eq_getElem hlt2]
                rfl
              have b2d := hm4.b2
              have HNX2 := Lib.hid (tw_next ns T i hlt2 t1)
              have hd2 : decide ((i : Int) < ns.length) = true := decide_eq_true (by omega)
              clear hm4 hN hg3 b2c
              generalize ns[i] = nm at *
              generalize (t1 || ((ns.take i).map vbl).contains (vbl T)) = tw at *
              have HR4 := Lib.hid hr4
              obtain ⟨c0, c1, c2, c3, c4, fz⟩ := hr4
              cases tw with
              | true =>
                go_wp2_with fail
                go_roundg (ns.length - (i + 1))
                case measure => omega
                case rel => exact ⟨i + 1, rfl, by omega, by go_num, by rw [HNX2.out, Bool.true_or]; exact HR4.out.setTwice true, ha4.set _⟩
              | false =>
                go_wp2_with fail
                go_roundg (ns.length - (i + 1))
                case measure => omega
                case rel => exact ⟨i + 1, rfl, by omega, by go_num, by rw [HNX2.out, Bool.false_or]; exact HR4.out.setTwice _, ha4.set _⟩
            · have hd2 : decide ((i : Int) < ns.length) = false := decide_eq_false (by omega)
              have hfl : (t1 || ((ns.take i).map vbl).contains (vbl T)) = (t1 || (ns.map vbl).contains (vbl T)) := by rw [List.take_of_length_le (by omega)]
              rw [hfl] at hr4
              obtain ⟨t4, ht4⟩ : ∃ t4, (t1 || (ns.map vbl).contains (vbl T)) = t4 := ⟨_, rfl⟩
              rw [ht4] at hr4
              have HT4 := Lib.hid ht4
              clear ht4 hfl b2c
              have hstA := hm4.grow hRlt (Aw2.ofAw ((Aw.refl R wr.heap.size wr).alloc (Nat.le_refl _) (.cells #[.string T] 9)) R)
              have hrA := hr4.alloc (.cells #[.string T] 9)
              have b2 := hm4.b2
              have hz4 : w.heap.size + 1 < wr.heap.size := by have := hm4.sz; omega
              have HSA := Lib.hid hstA
              have HRA := Lib.hid hrA
              clear hm4 hstA hrA hr4
              go_wp2_with (at_builtin; refine wpList_append_own_at _ rfl _ _ 23 rfl (w.heap.size + 2) 9 i3 (.string ⟨#[]⟩) 1 16 Tryd.underlying23 hi3 hz30 hz31 hz32 rfl (by decide) (.slice aN ns.length cN) ns.length (ns.map Value.string) rfl HSA.out.oN ⟨wr.heap.size, 0, none⟩ 1 1 [.string T] rfl rfl (cell_one_new _ _ _) (str_one _) (by unfold maxLen; omega) (by omega) HSA.out.sz ?_)
              intro v7 w7 hown7 hg7 _ hlie7
              obtain ⟨a7, cap7, rfl, _, _⟩ := fresh_row hown7
              have hm7 := HSA.out.name hown7 hg7 (by rw [show (wr.alloc (.cells #[.string T] 9)).heap.size = wr.heap.size + 1 from by simp]; exact hlie7) HRA.out.lt
              obtain ⟨c7, f7⟩ := HSA.out.boxN hg7
              have e7 := (c7 2).trans HSA.out.b2
              have hgR : (Value.slice aN ns.length cN).ownBlock ≠ some R := fun e => by have := (HSA.out.oN.lt R e).1; omega
              have hr7 : PS (w7.setCell ⟨w.heap.size + 1, 2, none⟩ (.slice a7 (ns.length + 1) cap7)) R s q3 b3 d1 t4 := PS.setOther (HRA.out.grown hg7 hgR) (by show R ≠ w.heap.size + 1; omega) _
              have HM7 := Lib.hid hm7
              clear c7 hg7 hown7 hlie7 hm7 HSA HRA
              go_upto_region 18 with fail
              generalize w7.setCell ⟨w.heap.size + 1, 2, none⟩ (.slice a7 (ns.length + 1) cap7) = W7 at *
              have HNZ2 := Lib.hid (show ∀ m ∈ ns ++ [T], m.size ≤ 16000 from fun m hm => by
                rcases List.mem_append.1 hm with hm | hm
                · exact HNZ.out m hm
                · simp at hm; subst hm; exact hT)
              by_cases h58 : hd (sk (s.data.toList.drop q3)) = 58
              · have HTY := pis_yes 58 R s q3 b3 d1 t4 W7 hr7 hq3 (by omega) h58 (by decide)
                have H58 := Lib.hid h58
                have hp58 := hd_pos h58 (by decide)
                clear h58
                go_wp2_with fail
                refine HTY.mono ?_
                rintro e w8 ⟨rfl, q4, hq4, hl4, hr8, ha8⟩
                have hm8 := HM7.out.grow hRlt (Aw2.ofAw ha8 R)
                have HL4 := Lib.hid hl4
                have hql : (s.data.toList.drop q4).length < (s.data.toList.drop q3).length := by
                  have h1 := sk_le (s.data.toList.drop q3)
                  rw [hl4, List.length_drop]
                  omega
                have HQL := Lib.hid (show b3 = false → (s.data.toList.drop q3).length < (s.data.toList.drop q).length from fun hb => by
                  have h1 := qt_le (HQ.out.1 hb)
                  have h2 := sk_le (s.data.toList.drop q)
                  omega)
                obtain ⟨O, hO⟩ : ∃ O, O = (if b3 = true then none else pv f (dep + 1) d1 t4 (s.data.toList.drop q4)) := ⟨_, rfl⟩
                have hobj : b3 = false → RES = match pv f (dep + 1) d1 t4 (s.data.toList.drop q4) with
                    | none => none
                    | some (y, r2, d9, t9) => if hd (sk r2) = 125 then some (.mk 8 e0 (ns ++ [T]) (xs ++ [y]), (sk r2).drop 1, d9, t9) else if hd (sk r2) = 44 then objGo (pv f (dep + 1)) k ((sk r2).drop 1) (ns ++ [T]) (xs ++ [y]) d9 t9 else none := fun hb => by
                  rw [← HRES.out, objGo, if_pos H34.out, HQ.out.1 hb]
                  show (if hd (sk (s.data.toList.drop q3)) = 58 then _ else _) = _
                  rw [if_pos H58.out, HT4.out, ← HL4.out, ofL_vbl]
                  cases pv f (dep + 1) d1 t4 (s.data.toList.drop q4) <;> rfl
                have HO := Lib.hid (show (∀ y r2 d9 t9, O = some (y, r2, d9, t9) → RES = if hd (sk r2) = 125 then some (.mk 8 e0 (ns ++ [T]) (xs ++ [y]), (sk r2).drop 1, d9, t9) else if hd (sk r2) = 44 then objGo (pv f (dep + 1)) k ((sk r2).drop 1) (ns ++ [T]) (xs ++ [y]) d9 t9 else none) ∧ (O = none → RES = none) by
                  rw [hO]
                  cases b3 with
                  | true => exact ⟨(fun _ _ _ _ h => by cases h), fun _ => by rw [← HRES.out, objGo, if_pos H34.out, HQ.out.2 rfl]⟩
                  | false =>
                    rw [if_neg (by decide)]
                    have h1 := hobj rfl
                    exact ⟨(fun y r2 d9 t9 h => by rw [h1, h]), fun h => by rw [h1, h]⟩)
                have HO2 := Lib.hid (show ∀ y r2 d9 t9, O = some (y, r2, d9, t9) → r2.length < (s.data.toList.drop q).length from fun y r2 d9 t9 h => by
                  rw [hO] at h
                  cases b3 with
                  | true => cases h
                  | false =>
                    rw [if_neg (by decide)] at h
                    have h1 := pv_less f (dep + 1) _ _ _ _ _ _ _ h
                    have h2 := HQL.out rfl
                    omega)
                have hC : ∀ W, PS W R s q4 b3 d1 t4 → Calls Tryd.prog 16 #[.pointer (some ⟨R, 0, none⟩), .int .i64 ((dep : Int) + 1)] W (PVIs R s f W O) := fun W hW => by
                  cases b3 with
                  | false =>
                    have h2 := HQL.out rfl
                    have := HI.out q4 d1 t4 W hW hq4 (by omega)
                    rw [show ((dep + 1 : Nat) : Int) = (dep : Int) + 1 by omega] at this
                    rw [hO, if_neg (by decide)]
                    exact this
                  | true =>
                    have := pvalue_none R s q4 (dep + 1) true d1 t4 W hW hq4 (by omega) (by omega) (.inl rfl)
                    rw [show ((dep + 1 : Nat) : Int) = (dep : Int) + 1 by omega] at this
                    refine this.mono ?_
                    rintro e w' ⟨rfl, p', d', hp', hps, haw⟩
                    obtain ⟨f', rfl⟩ : ∃ f', f = f' + 1 := ⟨f - 1, by omega⟩
                    exact ⟨_, _, p', true, d', t4, rfl, rd_leaf w' _ f' 0 ⟨#[]⟩ (by decide), hp', hps, haw, (fun h => by cases h), fun _ => by rw [hO, if_pos rfl]⟩
                have hwrap : IntKind.i64.wrap ((dep : Int) + 1) = (dep : Int) + 1 := IntWalk.i64_in _ (by omega)
                have HC := Lib.hid hC
                have HR := Lib.hid hr8
                have hRr := hr8.lt
                have b3c := hm8.b3
                have HST2 := Lib.hid hm8
                have hszr := hm8.sz
                clear hC hobj hO hl4 hm8 hr8 hr7 HTY
                go_upto_region 21 with fail
                go_region_law (first
                  | (refine step_append_lies _ rfl (.tmp 92) (.tmp 97) 24 rfl (w.heap.size + 2) 26 i2 (.agg #[.int .i64 0, .string ⟨#[]⟩, .slice none 0 0, .slice none 0 0]) 4 72 Tryd.underlying24 hi2 hz20 hz21 hz22 rfl (by decide) (.slice aL xs.length cL) xs.length cs (by simp [Act.eval]) HA3.out.oL ⟨w3.heap.size, 0, none⟩ 1 1 [.int .i64 x.k, .string x.s, .slice an x.ns.length cn, .slice ap x.ps.length cp] (by simp [Act.eval]) rfl HC4.out HO4.out (by decide) (by unfold maxLen; omega) (by omega) HZ4.out (w3.heap.size + 1) HS4.out ?_; intro g8 cap8 w8 hown8 hg8 hlie8 hl8; obtain ⟨c8, f8⟩ := HA3.out.boxL hg8; have e8 := (c8 3).trans HA3.out.b3; clear c8)
                  | (go_simp; (go_at_call 16); (with_reducible refine (HC.out _ HR.out.drew).mono ?_); rintro e w3 ⟨x, v, q3, b3', d2, t2, rfl, hR3, hq3, hr3, ha3, hv1, hv2⟩; obtain ⟨an, cn, ap, cp, rfl⟩ := hR3.shape; have HW := Lib.hid (list_arm HST2.out hRlt hRr ha3.fromDrew hR3); have b33 := HW.out.1; have hlt3 : w.heap.size + 1 < w3.heap.size := (by have h1 := ha3.fromDrew.size; omega); have HA3 := Lib.hid HW.out.2.1; have HX3 := Lib.hid HW.out.2.2; have HC4 := Lib.hid (cell_four_new w3 (.int .i64 x.k) (.string x.s) (.slice an x.ns.length cn) (.slice ap x.ps.length cp) 26); have HO4 := Lib.hid (four_one x.k x.s an x.ns.length cn ap x.ps.length cp); have HZ4 := Lib.hid HA3.out.sz; have HS4 : Hid ((w3.alloc (.cells #[.int .i64 x.k, .string x.s, .slice an x.ns.length cn, .slice ap x.ps.length cp] 26)).heap.size = w3.heap.size + 1) := Lib.hid (by simp); have HV1 := Lib.hid hv1; have HV2 := Lib.hid hv2; have HR3 := Lib.hid hr3; have HA0 := Lib.hid ha3; clear hv1 hv2 hr3 ha3 hR3 HW))
                all_goals
                  have hm8 := HA3.out.list HX3.out hown8 hg8 (by
                    rcases hlie8 with e | e
                    · exact .inl e.symm
                    · exact .inr (by rw [HS4.out, e]; rfl)) (by rw [HS4.out]; omega)
                  have hr8 : PS (w8.setCell ⟨w.heap.size + 1, 3, none⟩ (.slice (some ⟨g8, 0, none⟩) (xs.length + 1) cap8)) R s q3 b3' d2 t2 := by
                    refine PS.setOther ?_ (by show R ≠ w.heap.size + 1; omega) _
                    refine (HR3.out.alloc _).keep (hg8.block R (by rw [HS4.out]; omega) (fun e => ?_))
                    have := (HA3.out.oL.lt R (by first | exact e | exact e.symm)).1
                    omega
                  generalize w8.setCell ⟨w.heap.size + 1, 3, none⟩ (.slice (some ⟨g8, 0, none⟩) (xs.length + 1) cap8) = W4 at *
                  have HM8 := Lib.hid hm8
                  clear hm8 e8 f8 hg8 hown8 hlie8 HC4 HO4 HZ4 HS4 HX3 HA3 HA0 b33
                  have HN := Lib.hid (show ∀ y r2 d9 t9, O = some (y, r2, d9, t9) → RES = if hd (sk r2) = 125 then some (.mk 8 e0 (ns ++ [T]) (xs ++ [y]), (sk r2).drop 1, d9, t9) else if hd (sk r2) = 44 then objGo (pv f (dep + 1)) k ((sk r2).drop 1) (ns ++ [T]) (xs ++ [y]) d9 t9 else none from HO.out.1)
                  have HB := Lib.hid (show b3' = true → RES = none from fun hb => HO.out.2 (HV2.out hb))
                  have hxl2 : (xs ++ [x]).length ≤ s.size := by rw [List.length_append, List.length_singleton]; omega
                  by_cases h125 : hd (sk (s.data.toList.drop q3)) = 125
                  · have HT := pis_yes 125 R s q3 b3' d2 t2 W4 hr8 hq3 (by omega) h125 (by decide)
                    have HE := Lib.hid (show b3' = false → RES = some (.mk 8 e0 (ns ++ [T]) (xs ++ [x]), (sk (s.data.toList.drop q3)).drop 1, d2, t2) from fun hb => by
                      rw [HN.out _ _ _ _ (HV1.out hb)]
                      rw [if_pos h125])
                    clear h125
                    go_wp2_with fail
                    refine HT.mono ?_
                    rintro e w9 ⟨rfl, q9, hq9, hl9, hr9, ha9⟩
                    have hm9 := HM8.out.grow hRlt (Aw2.ofAw ha9 R)
                    have HM9 := Lib.hid hm9
                    have HL9 := Lib.hid hl9
                    obtain ⟨_, hsz, b0, b1, b2, b3, bf, ⟨r0, r1', r2, r3, rf⟩, _⟩ := hm9
                    clear hl9
                    go_wp2_with fail
                    refine bodyPost_ret (v := .agg #[.int .i64 8, .string ⟨#[]⟩, .slice a7 (ns.length + 1) cap7, .slice (some ⟨g8, 0, none⟩) (xs.length + 1) cap8]) (by simp [results, Tryd.results25, go_sem, r0, r1', r2, r3]) rfl ?_
                    exact ⟨_, _, q9, b3', d2, t2, rfl, HM9.out.done (by omega) (by rw [List.length_append, List.length_singleton]; have := HNX.out; omega) HNZ2.out _ (fun b o hb => World.cell?_of_block (a := ⟨b, o, none⟩) (heap_four _ _ _ _ _ _ _ hb)) (size_four _ _ _ _ _ _), hq9, hr9.keep (heap_four _ _ _ _ _ _ _ hR), HM9.out.aw.four (Nat.le_refl _) _ _ _ _, (fun hb => by rw [HE.out hb, HL9.out]), HB.out⟩
                  · have HT := pis_no 125 R s q3 b3' d2 t2 W4 hr8 hq3 (by omega) h125
                    by_cases h44 : hd (sk (s.data.toList.drop q3)) = 44
                    · have HE := Lib.hid (show b3' = false → RES = objGo (pv f (dep + 1)) k ((sk (s.data.toList.drop q3)).drop 1) (ns ++ [T]) (xs ++ [x]) d2 t2 from fun hb => by
                        rw [HN.out _ _ _ _ (HV1.out hb)]
                        rw [if_neg h125, if_pos h44])
                      have hpos := hd_pos h44 (by decide)
                      have hsk3 := sk_le (s.data.toList.drop q3)
                      have HLT := Lib.hid (show b3' = false → (s.data.toList.drop q3).length < (s.data.toList.drop q).length from fun hb => HO2.out _ _ _ _ (HV1.out hb))
                      have H44 := Lib.hid h44
                      clear h125 h44
                      go_wp2_with fail
                      refine HT.mono ?_
                      rintro e w9 ⟨rfl, q9, hq9, hl9, hr9, ha9⟩
                      have hm9 := HM8.out.grow hRlt (Aw2.ofAw ha9 R)
                      have HT2 := pis_yes 44 R s q9 b3' d2 t2 w9 hr9 hq9 (by omega) (by rw [hl9, sk_sk]; exact H44.out) (by decide)
                      rw [hl9, sk_sk] at HT2
                      have HM9 := Lib.hid hm9
                      clear hl9 hm9
                      go_wp2_with fail
                      refine HT2.mono ?_
                      rintro e w10 ⟨rfl, q10, hq10, hl10, hr10, ha10⟩
                      have hm10 := HM9.out.grow hRlt (Aw2.ofAw ha10 R)
                      have HL10 := Lib.hid hl10
                      clear hl10
                      have hdl : ((sk (s.data.toList.drop q3)).drop 1).length < (s.data.toList.drop q3).length := by rw [List.length_drop]; omega
                      go_wp2_with fail
                      go_roundg k
                      case measure => omega
                      case rel => exact ⟨k, ns ++ [T], xs ++ [x], b3', d2, t2, _, _, _, q10, rfl, hq10, hxl2, (by rw [List.length_append, List.length_singleton]; have := HNX.out; omega), HNZ2.out, hr10, hm10, (fun hb => by
                        have h1 := HLT.out hb
                        rw [HL10.out]
                        exact ⟨by omega, by omega, by rw [List.length_append, List.length_singleton]; omega, (by rw [List.length_append, List.length_append, HNX.out]; rfl), (HE.out hb).symm⟩), HB.out⟩
                    · have HE := Lib.hid (show RES = none by
                        cases b3' with
                        | true => exact HB.out rfl
                        | false =>
                          rw [HN.out _ _ _ _ (HV1.out rfl)]
                          rw [if_neg h125, if_neg h44])
                      have H44 := Lib.hid h44
                      clear h125 h44
                      go_wp2_with fail
                      refine HT.mono ?_
                      rintro e w9 ⟨rfl, q9, hq9, hl9, hr9, ha9⟩
                      have hm9 := HM8.out.grow hRlt (Aw2.ofAw ha9 R)
                      have HT2 := pis_no 44 R s q9 b3' d2 t2 w9 hr9 hq9 (by omega) (by rw [hl9, sk_sk]; exact H44.out)
                      have HM9 := Lib.hid hm9
                      clear hl9 hm9
                      go_wp2_with fail
                      refine HT2.mono ?_
                      rintro e w10 ⟨rfl, q10, hq10, hl10, hr10, ha10⟩
                      have hm10 := HM9.out.grow hRlt (Aw2.ofAw ha10 R)
                      have HR10 := Lib.hid hr10
                      have HM10 := Lib.hid hm10
                      obtain ⟨c0, c1, c2, c3, c4, fz⟩ := hr10
                      clear hl10 hm10
                      go_wp2_with fail
                      go_roundg k
                      case measure => omega
                      case rel => exact ⟨k, ns ++ [T], xs ++ [x], true, d2, t2, _, _, _, q10, rfl, hq10, hxl2, (by rw [List.length_append, List.length_singleton]; have := HNX.out; omega), HNZ2.out, HR10.out.setBad true, HM10.out.grow hRlt (Aw2.ofAw ((Aw.refl _ _ _).set _) R), (fun hb => by cases hb), fun _ => HE.out⟩
              · have HTY := pis_no 58 R s q3 b3 d1 t4 W7 hr7 hq3 (by omega) h58
                have HE := Lib.hid (show RES = none by
                  rw [← HRES.out, objGo, if_pos H34.out]
                  cases b3 with
                  | true => rw [HQ.out.2 rfl]
                  | false =>
                    rw [HQ.out.1 rfl]
                    show (if hd (sk (s.data.toList.drop q3)) = 58 then _ else _) = _
                    rw [if_neg h58])
                clear h58
                go_wp2_with fail
                refine HTY.mono ?_
                rintro e w8 ⟨rfl, q8, hq8, hl8, hr8, ha8⟩
                have hm8 := HM7.out.grow hRlt (Aw2.ofAw ha8 R)
                have HM8 := Lib.hid hm8
                have HR8 := Lib.hid hr8
                obtain ⟨c0, c1, c2, c3, c4, fz⟩ := hr8
                obtain ⟨_, hsz, b0, b1, b2', b3'', bf, ⟨r0, r1, r2, r3, rf⟩, _⟩ := hm8
                clear hl8
                go_wp2_with fail
                refine bodyPost_ret (v := .agg #[.int .i64 8, .string ⟨#[]⟩, .slice a7 (ns.length + 1) cap7, .slice aL xs.length cL]) (by simp [results, Tryd.results25, go_sem, r0, r1, r2, r3]) rfl ?_
                exact ⟨_, _, q8, true, d1, t4, rfl, (HM8.out.grow hRlt (Aw2.ofAw ((Aw.refl _ _ _).set _) R)).done (by omega) (by rw [List.length_append, List.length_singleton]; have := HNX.out; omega) HNZ2.out _ (fun b o hb => World.cell?_of_block (a := ⟨b, o, none⟩) (heap_four _ _ _ _ _ _ _ hb)) (size_four _ _ _ _ _ _), hq8, (HR8.out.setBad true).keep (heap_four _ _ _ _ _ _ _ hR), (HM8.out.aw.set _).four (Nat.le_refl _) _ _ _ _, (fun h => by cases h), (fun _ => HE.out)⟩
        · have HE := Lib.hid (show RES = none by rw [← HRES.out, objGo, if_neg h34])
          obtain ⟨_, hsz, b0, b1, b2, b3, bf, ⟨r0, r1, r2, r3, rf⟩, _⟩ := hm1
          by_cases hlt : q1 < s.size
          · have e34 : ((s[q1].toNat : Int) != 34) = true := by
              rw [byte_notR s[q1] 34 34 rfl]
              exact decide_eq_true (fun e => h34 (by rw [← HL1.out, hd_at s q1 hlt]; exact e))
            have hge : decide ((s.size : Int) ≤ q1) = false := decide_eq_false (by omega)
            clear h34
            go_quiet (fail)
            go_wp2_with fail
            refine bodyPost_ret (v := .agg #[.int .i64 8, .string ⟨#[]⟩, .slice aN ns.length cN, .slice aL xs.length cL]) (by simp [results, Tryd.results25, go_sem, r0, r1, r2, r3]) rfl ?_
            exact ⟨_, _, q1, true, d1, t1, rfl, (HM1.out.grow hRlt (Aw2.ofAw (((Aw.refl _ _ _).drewN _).set _) R)).done (by omega) (by omega) HNZ.out _ (fun b o hb => World.cell?_of_block (a := ⟨b, o, none⟩) (heap_four _ _ _ _ _ _ _ hb)) (size_four _ _ _ _ _ _), hq1, ((HR1.out.drewN _).setBad true).keep (heap_four _ _ _ _ _ _ _ hR), ((HM1.out.aw.drewN _).set _).four (Nat.le_refl _) _ _ _ _, (fun h => by cases h), (fun _ => HE.out)⟩
          · have hge : decide ((s.size : Int) ≤ q1) = true := decide_eq_true (by omega)
            clear h34
            go_quiet (fail)
            go_wp2_with fail
            refine bodyPost_ret (v := .agg #[.int .i64 8, .string ⟨#[]⟩, .slice aN ns.length cN, .slice aL xs.length cL]) (by simp [results, Tryd.results25, go_sem, r0, r1, r2, r3]) rfl ?_
            exact ⟨_, _, q1, true, d1, t1, rfl, (HM1.out.grow hRlt (Aw2.ofAw (((Aw.refl _ _ _).drewN _).set _) R)).done (by omega) (by omega) HNZ.out _ (fun b o hb => World.cell?_of_block (a := ⟨b, o, none⟩) (heap_four _ _ _ _ _ _ _ hb)) (size_four _ _ _ _ _ _), hq1, ((HR1.out.drewN _).setBad true).keep (heap_four _ _ _ _ _ _ _ hR), ((HM1.out.aw.drewN _).set _).four (Nat.le_refl _) _ _ _ _, (fun h => by cases h), (fun _ => HE.out)⟩

end Go.Proofs.YtbcenaljaoejkaaDoor
