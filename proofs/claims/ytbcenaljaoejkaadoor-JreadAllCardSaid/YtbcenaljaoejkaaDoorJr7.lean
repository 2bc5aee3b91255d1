/-
  jread's reader: what list answers.
-/
import Derived.Test.YtbcenaljaoejkaaDoorJr6
namespace Go.Proofs.YtbcenaljaoejkaaDoor
open Go.RowKit

/-- One more of the list is to be read; what comes of it all is RES. -/
def LRel (w : World) (R : Nat) (s : ByteArray) (f : Nat) (V : Rdg) (RES : Option PR) (k : Nat) (wr : World) : Prop :=
  ∃ (j : Nat) (r : List UInt8) (xs : List JV) (d t : Bool) (cs : List Value) (vN vL : Value) (q : Nat), j = k ∧ q ≤ s.size ∧ s.data.toList.drop q = r ∧ r.length < f ∧ r.length < j ∧ xs.length + r.length ≤ s.size ∧ Rdr wr R s q d t ∧ JSt w R R 7 f [] xs cs vN vL wr ∧ listGo V j r xs d t = RES

/-- The contract of value that list and object are given. -/
def ValOk (R : Nat) (s : ByteArray) (f dep : Nat) : Prop :=
  ∀ (p : Nat) (d t : Bool) (W : World), Rdr W R s p d t → p ≤ s.size → (s.data.toList.drop p).length < f →
    Calls Tryd.prog 31 #[.pointer (some ⟨R, 0, none⟩), .int .i64 dep] W (VIs R s f W (pv f dep d t (s.data.toList.drop p)))

theorem Rdr.drew {w : World} {R : Nat} {s : ByteArray} {p : Nat} {d t : Bool} (h : Rdr w R s p d t) : Rdr w.drew R s p d t := h.keep rfl
theorem Aw.fromDrew {R n : Nat} {w w' : World} (h : Aw R n w.drew w') : Aw R n w w' := ⟨h.os, h.tape, h.output, h.size, h.block⟩
theorem pv_sk (f dep : Nat) (d t : Bool) (l : List UInt8) : pv f dep d t (sk l) = pv f dep d t l := by
  cases f with
  | zero => rfl
  | succ f => unfold pv; rw [sk_sk]
theorem listGo_sk (f dep n : Nat) (l : List UInt8) (xs : List JV) (d t : Bool) : listGo (pv f dep) n (sk l) xs d t = listGo (pv f dep) n l xs d t := by
  cases n with
  | zero => rfl
  | succ n => unfold listGo; rw [pv_sk]

/-- A value has been read, and its cells laid once more: the list as it was, and the value. -/
theorem list_arm {w W w3 : World} {R M : Nat} {kk : Int} {f : Nat} {ns : List ByteArray} {xs : List JV} {cs : List Value} {vN vL : Value} (h : JSt w R M kk f ns xs cs vN vL W) (hR : R < w.heap.size) (hM : M < W.heap.size) (ha : Aw R W.heap.size W w3) {x : JV} {c0 c1 c2 c3 : Value}
    (hx : RdD w3 (fun b => W.heap.size ≤ b ∧ b < w3.heap.size) f x (.agg #[c0, c1, c2, c3])) : w3.cell? ⟨w.heap.size + 1, 3, none⟩ = some vL ∧ JSt w R M kk f ns xs cs vN vL (w3.alloc (.cells #[c0, c1, c2, c3] 26)) ∧
      RdD (w3.alloc (.cells #[c0, c1, c2, c3] 26)) (JD w M (w3.alloc (.cells #[c0, c1, c2, c3] 26)) vN vL) f x (.agg #[c0, c1, c2, c3]) := by
  have h3 := h.grow hR (Aw2.ofAw ha M)
  have h4 := h3.grow hR (Aw2.ofAw ((Aw.refl R w3.heap.size w3).alloc (Nat.le_refl _) (.cells #[c0, c1, c2, c3] 26)) M)
  refine ⟨h3.b3, h4, RdD.step (fun b hd => ⟨Nat.le_trans h.sz hd.1, by simp; omega, fun e => ?_, fun e => ?_, fun e => ?_⟩) (fun b o hd => World.cell?_of_block (a := ⟨b, o, none⟩) (Below.heap_alloc _ _ _ hd.2)) hx⟩
  · have := (h.oN.lt b e).2; omega
  · have := (h.oL.lt b e).2; omega
  · omega

set_option maxHeartbeats 4000000 in
set_option maxRecDepth 100000 in
theorem list_any (R : Nat) (s : ByteArray) (f dep p : Nat) (d t : Bool) (w : World) (h : Rdr w R s p d t) (hp : p ≤ s.size) (hs : s.size ≤ 4000) (hdep : dep ≤ 5000) (hf : (s.data.toList.drop p).length < f + 1) (ih : ValOk R s f (dep + 1)) (h91 : hd (sk (s.data.toList.drop p)) = 91) :
    Calls Tryd.prog 40 #[.pointer (some ⟨R, 0, none⟩), .int .i64 dep] w (VIs R s (f + 1) w (listP (pv f (dep + 1)) f d t ((sk (s.data.toList.drop p)).drop 1))) := by
  obtain ⟨i2, hi2, hz20, hz21, hz22⟩ := info_parts infoVal
  have HI := Lib.hid ih
  have hRlt := h.lt
  clear ih
  have hsk := sk_le (s.data.toList.drop p)
  have hpos := hd_pos h91 (by decide)
  have HM := must_yes 91 R s p d t ((w.alloc (.cells #[.int .i64 0, .string ⟨#[]⟩, .slice none 0 0, .slice none 0 0] 26)).alloc (.cells #[.int .i64 7, .string ⟨#[]⟩, .slice none 0 0, .slice none 0 0] 26)) ((h.alloc _).alloc _) hp hs h91 (by decide)
  have hlen : ((sk (s.data.toList.drop p)).drop 1).length < f := by rw [List.length_drop]; omega
  generalize (sk (s.data.toList.drop p)).drop 1 = l at *
  clear h91 h hsk hpos
  go_enter Tryd.func40, Tryd.ntmps40
  go_wp2_with fail
  refine HM.mono ?_
  rintro e w1 ⟨rfl, q1, hq1, hl1, hr1, ha1⟩
  subst hl1
  by_cases h93 : hd (sk (s.data.toList.drop q1)) = 93
  · have HT := take_yes 93 R s q1 d t w1 hr1 hq1 hs h93 (by decide)
    have HU := Lib.hid (show listP (pv f (dep + 1)) f d t (s.data.toList.drop q1) = some (.mk 7 e0 [] [], (sk (s.data.toList.drop q1)).drop 1, d, t) by unfold listP; rw [if_pos h93])
    clear h93
    go_wp2_with fail
    refine HT.mono ?_
    rintro e w2 ⟨rfl, q2, hq2, hl2, hr2, ha2⟩
    have hst : JSt w R R 7 f [] [] [] (.slice none 0 0) (.slice none 0 0) w2 := jst_init w w2 R R 7 f hRlt (.inl rfl) ((ha1.mono (by simp)).trans (ha2.mono (by have := ha1.size; simp at this; omega)))
    have HST := Lib.hid hst
    have HL2 := Lib.hid hl2
    obtain ⟨_, hsz, b0, b1, b2, b3, bf, ⟨r0, r1, r2, r3, rf⟩, _⟩ := hst
    clear hl2
    go_wp2_with fail
    refine bodyPost_ret (v := .agg #[.int .i64 7, .string ⟨#[]⟩, .slice none 0 0, .slice none 0 0]) (by simp [results, Tryd.results40, go_sem, r0, r1, r2, r3]) rfl ?_
    rw [HU.out]
    have hR : R ≠ w.heap.size := by omega
    exact ⟨_, rfl, HST.out.done (by simp) (by simp) (by simp) _ (fun b o hb => World.cell?_of_block (a := ⟨b, o, none⟩) (heap_four _ _ _ _ _ _ _ hb)) (size_four _ _ _ _ _ _), q2, hq2, HL2.out, hr2.four hR _ _ _ _, HST.out.aw.four (Nat.le_refl _) _ _ _ _⟩
  · have HT := take_no 93 R s q1 d t w1 hr1 hq1 hs h93
    have HU := Lib.hid (show listP (pv f (dep + 1)) f d t (s.data.toList.drop q1) = listGo (pv f (dep + 1)) f (s.data.toList.drop q1) [] d t by unfold listP; rw [if_neg h93])
    clear h93
    go_wp2_with fail
    refine HT.mono ?_
    rintro e w2 ⟨rfl, q2, hq2, hl2, hr2, ha2⟩
    have hst : JSt w R R 7 f [] [] [] (.slice none 0 0) (.slice none 0 0) w2 := jst_init w w2 R R 7 f hRlt (.inl rfl) ((ha1.mono (by simp)).trans (ha2.mono (by have := ha1.size; simp at this; omega)))
    have HL2 := Lib.hid hl2
    have HST := Lib.hid hst
    have hln : (sk (s.data.toList.drop q1)).length < f := Nat.lt_of_le_of_lt (sk_le _) hlen
    have hlz : (sk (s.data.toList.drop q1)).length ≤ s.size := by rw [← hl2, len_drop]; omega
    clear hl2 hst
    go_wp2_with fail
    go_loopg [] f (fun k wr => LRel w R s f (pv f (dep + 1)) (listP (pv f (dep + 1)) f d t (s.data.toList.drop q1)) k wr)
    case atStart => exact ⟨f, sk (s.data.toList.drop q1), [], d, t, [], _, _, q2, rfl, hq2, HL2.out, hln, hln, by simpa using hlz, hr2, HST.out, by rw [HU.out, listGo_sk]⟩
    case round =>
      obtain ⟨j, r, xs, d1, t1, cs, vN, vL, q, rfl, hq, hl, hrf, hrk, hxl, hr, hst, hres⟩ := hrel
      generalize listP (pv f (dep + 1)) f d t (s.data.toList.drop q1) = RES at *
      subst hl
      obtain ⟨k, rfl⟩ : ∃ k', j = k' + 1 := ⟨j - 1, by omega⟩
      have hC : ∀ W, Rdr W R s q d1 t1 → Calls Tryd.prog 31 #[.pointer (some ⟨R, 0, none⟩), .int .i64 ((dep : Int) + 1)] W (VIs R s f W (pv f (dep + 1) d1 t1 (s.data.toList.drop q))) := fun W hW => by
        have := HI.out q d1 t1 W hW hq hrf
        rw [show ((dep + 1 : Nat) : Int) = (dep : Int) + 1 by omega] at this
        exact this
      have hwrap : IntKind.i64.wrap ((dep : Int) + 1) = (dep : Int) + 1 := IntWalk.i64_in _ (by omega)
      have HRES := Lib.hid hres
      have HR := Lib.hid hr
      have hRr := hr.lt
      clear hres hr
      cases hv : pv f (dep + 1) d1 t1 (s.data.toList.drop q) with
      | none =>
        have HN := Lib.hid (show RES = none by rw [← HRES.out]; unfold listGo; rw [hv])
        rw [hv] at hC
        have HC := Lib.hid hC
        have b3 := hst.b3
        have HST1 := Lib.hid hst
        clear hv hC hst
        go_upto_region 5 with fail
        go_region_with ((go_at_call 31); (with_reducible refine (HC.out _ HR.out.drew).mono ?_); rintro e w3 ⟨rfl, ha3⟩; refine viaAny (P := Tryd.prog) .text { tmps := #[], defers := [] } w3 ?_)
        all_goals
          refine ⟨rfl, ?_⟩
          rw [HN.out]
          exact ⟨rfl, HST1.out.aw.trans (ha3.fromDrew.mono (by have := HST1.out.sz; show w.heap.size ≤ wr.heap.size; omega))⟩
      | some o =>
        obtain ⟨x, r1, d2, t2⟩ := o
        have hless := pv_less f (dep + 1) _ _ _ _ _ _ _ hv
        have HN := Lib.hid (show RES = if hd (sk r1) = 93 then some (.mk 7 e0 [] (xs ++ [x]), (sk r1).drop 1, d2, t2) else if hd (sk r1) = 44 then listGo (pv f (dep + 1)) k ((sk r1).drop 1) (xs ++ [x]) d2 t2 else none by rw [← HRES.out, listGo, hv])
        rw [hv] at hC
        have HC := Lib.hid hC
        obtain ⟨aL, cL, rfl, hcL, _⟩ := fresh_row hst.oL
        obtain ⟨aN, cN, rfl, hcN, _⟩ := fresh_row hst.oN
        have b3 := hst.b3
        have HST1 := Lib.hid hst
        have hszr := hst.sz
        clear hv hC hst HRES
        go_upto_region 5 with fail
        go_region_law (first
          | (refine step_append_lies _ rfl (.tmp 13) (.tmp 18) 24 rfl (w.heap.size + 2) 26 i2 (.agg #[.int .i64 0, .string ⟨#[]⟩, .slice none 0 0, .slice none 0 0]) 4 72 Tryd.underlying24 hi2 hz20 hz21 hz22 rfl (by decide) (.slice aL xs.length cL) xs.length cs (by simp [Act.eval]) HA3.out.oL ⟨w3.heap.size, 0, none⟩ 1 1 [.int .i64 x.k, .string x.s, .slice an x.ns.length cn, .slice ap x.ps.length cp] (by simp [Act.eval]) rfl HC4.out HO4.out (by decide) (by unfold maxLen; omega) (by omega) HZ4.out (w3.heap.size + 1) HS4.out ?_; intro g8 cap8 w8 hown8 hg8 hlie8 hl8; obtain ⟨c8, f8⟩ := HA3.out.boxL hg8; have e8 := (c8 3).trans HA3.out.b3; clear c8)
          | (go_simp; (go_at_call 31); (with_reducible refine (HC.out _ HR.out.drew).mono ?_); rintro e w3 ⟨v, rfl, hR, q3, hq3, hl3, hr3, ha3⟩; obtain ⟨an, cn, ap, cp, rfl⟩ := hR.shape; have HW := Lib.hid (list_arm HST1.out hRlt hRr ha3.fromDrew hR); have b33 := HW.out.1; have hlt3 : w.heap.size + 1 < w3.heap.size := (by have h1 := ha3.fromDrew.size; omega); have HA3 := Lib.hid HW.out.2.1; have HX3 := Lib.hid HW.out.2.2; have HC4 := Lib.hid (cell_four_new w3 (.int .i64 x.k) (.string x.s) (.slice an x.ns.length cn) (.slice ap x.ps.length cp) 26); have HO4 := Lib.hid (four_one x.k x.s an x.ns.length cn ap x.ps.length cp); have HZ4 := Lib.hid HA3.out.sz; have HS4 : Hid ((w3.alloc (.cells #[.int .i64 x.k, .string x.s, .slice an x.ns.length cn, .slice ap x.ps.length cp] 26)).heap.size = w3.heap.size + 1) := Lib.hid (by simp); have HL3 := Lib.hid hl3; have HR3 := Lib.hid hr3; have HA0 := Lib.hid ha3; clear hl3 hr3 ha3 hR HW))
        all_goals
          have hm8 := HA3.out.list HX3.out hown8 hg8 (by
            rcases hlie8 with e | e
            · exact .inl e.symm
            · exact .inr (by rw [HS4.out, e]; rfl)) (by rw [HS4.out]; omega)
          have hr8 : Rdr (w8.setCell ⟨w.heap.size + 1, 3, none⟩ (.slice (some ⟨g8, 0, none⟩) (xs.length + 1) cap8)) R s q3 d2 t2 := by
            refine Rdr.setOther ?_ (by show R ≠ w.heap.size + 1; omega) _
            refine (HR3.out.alloc _).keep (hg8.block R (by rw [HS4.out]; omega) (fun e => ?_))
            have := (HA3.out.oL.lt R (by first | exact e | exact e.symm)).1
            omega
          generalize w8.setCell ⟨w.heap.size + 1, 3, none⟩ (.slice (some ⟨g8, 0, none⟩) (xs.length + 1) cap8) = W4 at *
          have HM8 := Lib.hid hm8
          clear hm8 e8 f8 hg8 hown8 hlie8 HC4 HO4 HZ4 HS4 HX3 HA3 HA0 b33
          have hL3 := HL3.out
          have hsk3 := sk_le r1
          by_cases h93 : hd (sk r1) = 93
          · have HT := take_yes 93 R s q3 d2 t2 W4 hr8 hq3 hs (by rw [hL3]; exact h93) (by decide)
            have HE := Lib.hid (show RES = _ by rw [HN.out, if_pos h93])
            rw [hL3] at HT
            clear h93 hL3
            go_wp2_with fail
            refine HT.mono ?_
            rintro e w9 ⟨rfl, q9, hq9, hl9, hr9, ha9⟩
            have hm9 := HM8.out.grow hRlt (Aw2.ofAw ha9 R)
            have HM9 := Lib.hid hm9
            have HL9 := Lib.hid hl9
            obtain ⟨_, hsz, b0, b1, b2, b3, bf, ⟨r0, r1', r2, r3, rf⟩, _⟩ := hm9
            clear hl9
            go_wp2_with fail
            refine bodyPost_ret (v := .agg #[.int .i64 7, .string ⟨#[]⟩, .slice aN 0 cN, .slice (some ⟨g8, 0, none⟩) (xs.length + 1) cap8]) (by simp [results, Tryd.results40, go_sem, r0, r1', r2, r3]) rfl ?_
            rw [HE.out]
            have hR : R ≠ w.heap.size := by omega
            exact ⟨_, rfl, HM9.out.done (by rw [List.length_append, List.length_singleton]; omega) (by simp) (by simp) _ (fun b o hb => World.cell?_of_block (a := ⟨b, o, none⟩) (heap_four _ _ _ _ _ _ _ hb)) (size_four _ _ _ _ _ _), q9, hq9, HL9.out, hr9.four hR _ _ _ _, HM9.out.aw.four (Nat.le_refl _) _ _ _ _⟩
          · have HT := take_no 93 R s q3 d2 t2 W4 hr8 hq3 hs (by rw [hL3]; exact h93)
            rw [hL3] at HT
            by_cases h44 : hd (sk r1) = 44
            · have HE := Lib.hid (show RES = _ by rw [HN.out, if_neg h93, if_pos h44])
              have hpos := hd_pos h44 (by decide)
              have H44 := Lib.hid h44
              clear h93 h44 hL3
              go_wp2_with fail
              refine HT.mono ?_
              rintro e w9 ⟨rfl, q9, hq9, hl9, hr9, ha9⟩
              have hm9 := HM8.out.grow hRlt (Aw2.ofAw ha9 R)
              have HT2 := must_yes 44 R s q9 d2 t2 w9 hr9 hq9 hs (by rw [hl9, sk_sk]; exact H44.out) (by decide)
              rw [hl9, sk_sk] at HT2
              have HM9 := Lib.hid hm9
              clear hl9 hm9
              go_wp2_with fail
              refine HT2.mono ?_
              rintro e w10 ⟨rfl, q10, hq10, hl10, hr10, ha10⟩
              have hm10 := HM9.out.grow hRlt (Aw2.ofAw ha10 R)
              have HL10 := Lib.hid hl10
              clear hl10
              have hdl : ((sk r1).drop 1).length ≤ r1.length := by rw [List.length_drop]; omega
              go_wp2_with fail
              go_roundg k
              case measure => omega
              case rel => exact ⟨k, (sk r1).drop 1, xs ++ [x], d2, t2, _, _, _, q10, rfl, hq10, HL10.out, by omega, by omega, by rw [List.length_append, List.length_singleton]; omega, hr10, hm10, HE.out.symm⟩
            · have HE := Lib.hid (show RES = none by rw [HN.out, if_neg h93, if_neg h44])
              have H44 := Lib.hid h44
              clear h93 h44 hL3
              go_wp2_with fail
              refine HT.mono ?_
              rintro e w9 ⟨rfl, q9, hq9, hl9, hr9, ha9⟩
              have hm9 := HM8.out.grow hRlt (Aw2.ofAw ha9 R)
              have HT2 := must_no 44 R s q9 d2 t2 w9 hr9 hq9 hs (by rw [hl9, sk_sk]; exact H44.out)
              have HM9 := Lib.hid hm9
              clear hl9 hm9
              go_wp2_with fail
              refine HT2.mono ?_
              rintro e w10 ⟨rfl, ha10⟩
              refine ⟨rfl, ?_⟩
              rw [HE.out]
              exact ⟨rfl, HM9.out.aw.trans (ha10.mono (by have := HM9.out.sz; omega))⟩

end Go.Proofs.YtbcenaljaoejkaaDoor
