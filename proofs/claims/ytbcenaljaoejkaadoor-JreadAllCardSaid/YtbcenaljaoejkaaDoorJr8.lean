/-
  jread's reader: what object answers.
-/
import Derived.Test.YtbcenaljaoejkaaDoorJr7
namespace Go.Proofs.YtbcenaljaoejkaaDoor
open Go.RowKit

theorem objGo_sk (V : Rdg) (n : Nat) (l : List UInt8) (ns : List ByteArray) (xs : List JV) (d t : Bool) : objGo V n (sk l) ns xs d t = objGo V n l ns xs d t := by
  cases n with
  | zero => rfl
  | succ n => unfold objGo; rw [sk_sk]

/-- One more of the object is to be read; what comes of it all is RES. -/
def ORel (w : World) (R M : Nat) (s : ByteArray) (f : Nat) (V : Rdg) (RES : Option PR) (k : Nat) (wr : World) : Prop :=
  ∃ (j : Nat) (r : List UInt8) (ns : List ByteArray) (xs : List JV) (d t : Bool) (cs : List Value) (vN vL : Value) (q : Nat), j = k ∧ q ≤ s.size ∧ s.data.toList.drop q = r ∧ r.length < f ∧ r.length < j ∧ xs.length + r.length ≤ s.size ∧ Hid (ns.length = xs.length) ∧
    (∀ m ∈ ns, m.size ≤ 16000) ∧ Rdr wr R s q d t ∧ JSt w R M 8 f ns xs cs vN vL wr ∧ Seen wr M xs.length ns ∧ objGo V j r ns xs d t = RES

theorem nameIs_no {R M n : Nat} {s : ByteArray} {d t : Bool} {ns : List ByteArray} {w : World} {l : List UInt8} (h : hd (sk l) ≠ 34) : NameIs R M n s d t ns w l = Bad R w := by
  funext e w'
  unfold NameIs
  rw [if_neg h]
theorem nameIs_bad {R M n : Nat} {s : ByteArray} {d t : Bool} {ns : List ByteArray} {w : World} {l : List UInt8} (h : hd (sk l) = 34) (hq : qt (sk l) = none) : NameIs R M n s d t ns w l = Bad R w := by
  funext e w'
  unfold NameIs
  rw [if_pos h, hq]
theorem nameIs_ok {R M n : Nat} {s : ByteArray} {d t : Bool} {ns : List ByteArray} {w : World} {l nm r : List UInt8} (h : hd (sk l) = 34) (hq : qt (sk l) = some (nm, r)) : NameIs R M n s d t ns w l = fun e w' => e = .returned (.string (ofL nm)) ∧ ∃ p, p ≤ s.size ∧ s.data.toList.drop p = r ∧ Rdr w' R s p d (t || (ns.map vbl).contains nm) ∧ Seen w' M (n + 1) (ns ++ [ofL nm]) ∧ Aw2 R M w.heap.size w w' := by
  funext e w'
  unfold NameIs
  rw [if_pos h, hq]

theorem str_one (x : ByteArray) : ∀ u ∈ [Value.string x], u.oneCell' = true := by
  intro u hu
  simp at hu
  subst hu
  rfl

theorem JSt.mlt {w W : World} {R M : Nat} {kk : Int} {dd : Nat} {ns : List ByteArray} {xs : List JV} {cs : List Value} {vN vL : Value} (_ : JSt w R M kk dd ns xs cs vN vL W) {n : Nat} {ms : List ByteArray} (h : Seen W M n ms) : M < W.heap.size := h.lt

theorem seen_row {w W W' : World} {R M : Nat} {kk : Int} {dd : Nat} {ns : List ByteArray} {xs : List JV} {cs : List Value} {vN vL : Value} (_ : JSt w R M kk dd ns xs cs vN vL W) {n : Nat} {ms : List ByteArray} (hm : Seen W M n ms) {g : Option Nat} (hg : W.grownBy W' g) (hgM : g ≠ some M) (hMb : w.heap.size + 2 ≤ M) (j : Nat) (v : Value) : Seen (W'.setCell ⟨w.heap.size + 1, j, none⟩ v) M n ms := by
  refine ownsMap_block hm ?_
  rw [Below.heap_setCell _ _ _ _ (by show M ≠ w.heap.size + 1; omega)]
  exact hg.block M hm.lt (by first | exact hgM | exact fun e => hgM e.symm)

theorem rdr_row {w W W' : World} {R M : Nat} {kk : Int} {dd : Nat} {ns : List ByteArray} {xs : List JV} {cs : List Value} {vN vL : Value} (_ : JSt w R M kk dd ns xs cs vN vL W) {s : ByteArray} {p : Nat} {d t : Bool} (hr : Rdr W R s p d t) {g : Option Nat} (hg : W.grownBy W' g) (hgR : g ≠ some R) (hR : R < w.heap.size) (j : Nat) (v : Value) : Rdr (W'.setCell ⟨w.heap.size + 1, j, none⟩ v) R s p d t := by
  refine Rdr.setOther ?_ (by show R ≠ w.heap.size + 1; omega) _
  exact hr.keep (hg.block R hr.lt (by first | exact hgR | exact fun e => hgR e.symm))

set_option maxHeartbeats 6000000 in
set_option maxRecDepth 100000 in
theorem object_any (R : Nat) (s : ByteArray) (f dep p : Nat) (d t : Bool) (w : World) (h : Rdr w R s p d t) (hp : p ≤ s.size) (hs : s.size ≤ 4000) (hdep : dep ≤ 5000) (hf : (s.data.toList.drop p).length < f + 1) (ih : ValOk R s f (dep + 1)) (h123 : hd (sk (s.data.toList.drop p)) = 123) :
    Calls Tryd.prog 41 #[.pointer (some ⟨R, 0, none⟩), .int .i64 dep] w (VIs R s (f + 1) w (objP (pv f (dep + 1)) f d t ((sk (s.data.toList.drop p)).drop 1))) := by
  obtain ⟨i2, hi2, hz20, hz21, hz22⟩ := info_parts infoVal
  obtain ⟨i3, hi3, hz30, hz31, hz32⟩ := info_parts infoStr
  have hmm := @run_makeMap Tryd.prog
  have HI := Lib.hid ih
  have hRlt := h.lt
  clear ih
  have hsk := sk_le (s.data.toList.drop p)
  have hpos := hd_pos h123 (by decide)
  have HM := must_yes 123 R s p d t ((w.alloc (.cells #[.int .i64 0, .string ⟨#[]⟩, .slice none 0 0, .slice none 0 0] 26)).alloc (.cells #[.int .i64 8, .string ⟨#[]⟩, .slice none 0 0, .slice none 0 0] 26)) ((h.alloc _).alloc _) hp hs h123 (by decide)
  have hlen : ((sk (s.data.toList.drop p)).drop 1).length < f := by rw [List.length_drop]; omega
  generalize (sk (s.data.toList.drop p)).drop 1 = l at *
  clear h123 h hsk hpos
  go_enter Tryd.func41, Tryd.ntmps41
  go_wp2_with fail
  refine HM.mono ?_
  rintro e w1 ⟨rfl, q1, hq1, hl1, hr1, ha1⟩
  subst hl1
  by_cases h125 : hd (sk (s.data.toList.drop q1)) = 125
  · have HT := take_yes 125 R s q1 d t w1 hr1 hq1 hs h125 (by decide)
    have HU := Lib.hid (show objP (pv f (dep + 1)) f d t (s.data.toList.drop q1) = some (.mk 8 e0 [] [], (sk (s.data.toList.drop q1)).drop 1, d, t) by unfold objP; rw [if_pos h125])
    clear h125
    go_wp2_with fail
    refine HT.mono ?_
    rintro e w2 ⟨rfl, q2, hq2, hl2, hr2, ha2⟩
    have hst : JSt w R R 8 f [] [] [] (.slice none 0 0) (.slice none 0 0) w2 := jst_init w w2 R R 8 f hRlt (.inl rfl) ((ha1.mono (by simp)).trans (ha2.mono (by have := ha1.size; simp at this; omega)))
    have HST := Lib.hid hst
    have HL2 := Lib.hid hl2
    obtain ⟨_, hsz, b0, b1, b2, b3, bf, ⟨r0, r1, r2, r3, rf⟩, _⟩ := hst
    clear hl2
    go_wp2_with fail
    refine bodyPost_ret (v := .agg #[.int .i64 8, .string ⟨#[]⟩, .slice none 0 0, .slice none 0 0]) (by simp [results, Tryd.results41, go_sem, r0, r1, r2, r3]) rfl ?_
    rw [HU.out]
    have hR : R ≠ w.heap.size := by omega
    exact ⟨_, rfl, HST.out.done (by simp) (by simp) (by simp) _ (fun b o hb => World.cell?_of_block (a := ⟨b, o, none⟩) (heap_four _ _ _ _ _ _ _ hb)) (size_four _ _ _ _ _ _), q2, hq2, HL2.out, hr2.four hR _ _ _ _, HST.out.aw.four (Nat.le_refl _) _ _ _ _⟩
  · have HT := take_no 125 R s q1 d t w1 hr1 hq1 hs h125
    have HU := Lib.hid (show objP (pv f (dep + 1)) f d t (s.data.toList.drop q1) = objGo (pv f (dep + 1)) f (s.data.toList.drop q1) [] [] d t by unfold objP; rw [if_neg h125])
    clear h125
    go_wp2_with fail
    refine HT.mono ?_
    rintro e w2 ⟨rfl, q2, hq2, hl2, hr2, ha2⟩
    have haz := ha1.size
    have haz2 := ha2.size
    have hMs : w.heap.size + 2 ≤ w2.heap.size := by simp at haz; omega
    have hst : JSt w R w2.heap.size 8 f [] [] [] (.slice none 0 0) (.slice none 0 0) (w2.alloc (.map #[] 0)) := jst_init w _ R w2.heap.size 8 f hRlt (.inr hMs) (((ha1.mono (by simp)).trans (ha2.mono (by simp at haz; omega))).alloc hMs _)
    have HL2 := Lib.hid hl2
    have HST := Lib.hid hst
    have hln : (sk (s.data.toList.drop q1)).length < f := Nat.lt_of_le_of_lt (sk_le _) hlen
    have hlz : (sk (s.data.toList.drop q1)).length ≤ s.size := by rw [← hl2, len_drop]; omega
    have hr2' := hr2.alloc (.map #[] 0)
    have hsn : Seen (w2.alloc (.map #[] 0)) w2.heap.size 0 [] := World.ownsMap_made _ _ _ _
    have hRM : R ≠ w2.heap.size := by omega
    clear hl2 hst
    go_wp2_with fail
    generalize hMM : w2.heap.size = M at *
    clear hMM
    go_loopg [7] f (fun k _ wr => ORel w R M s f (pv f (dep + 1)) (objP (pv f (dep + 1)) f d t (s.data.toList.drop q1)) k wr)
    case atStart => exact ⟨f, sk (s.data.toList.drop q1), [], [], d, t, [], _, _, q2, rfl, hq2, HL2.out, hln, hln, by simpa using hlz, Lib.hid rfl, by simp, hr2', HST.out, hsn, by rw [HU.out, objGo_sk]⟩
    case round =>
      obtain ⟨j, r, ns, xs, d1, t1, cs, vN, vL, q, rfl, hq, hl, hrf, hrk, hxl, HNX, hnz, hr, hst, hseen, hres⟩ := hrel
      generalize objP (pv f (dep + 1)) f d t (s.data.toList.drop q1) = RES at *
      subst hl
      obtain ⟨k, rfl⟩ : ∃ k', j = k' + 1 := ⟨j - 1, by omega⟩
      have HNM := name_any R M xs.length s q d1 t1 ns wr hr hq hs hseen (by omega) hRM
      have HRES := Lib.hid hres
      have HST1 := Lib.hid hst
      have hszr := hst.sz
      clear hres hr
      by_cases h34 : hd (sk (s.data.toList.drop q)) = 34
      · cases hqt : qt (sk (s.data.toList.drop q)) with
        | none =>
          have HN := Lib.hid (show RES = none by rw [← HRES.out, objGo, if_pos h34, hqt])
          rw [nameIs_bad h34 hqt] at HNM
          clear h34 hqt hst
          go_wp2_with fail
          refine HNM.mono ?_
          rintro e w3 ⟨rfl, ha3⟩
          refine ⟨rfl, ?_⟩
          rw [HN.out]
          exact ⟨rfl, HST1.out.aw.trans (ha3.mono (by omega))⟩
        | some o =>
          obtain ⟨nm, r1⟩ := o
          have HN := Lib.hid (show RES = if hd (sk r1) = 58 then
              match pv f (dep + 1) d1 (t1 || (ns.map vbl).contains nm) ((sk r1).drop 1) with
              | none => none
              | some (x, r2, d2, t2) =>
                if hd (sk r2) = 125 then some (.mk 8 e0 (ns ++ [ofL nm]) (xs ++ [x]), (sk r2).drop 1, d2, t2)
                else if hd (sk r2) = 44 then objGo (pv f (dep + 1)) k ((sk r2).drop 1) (ns ++ [ofL nm]) (xs ++ [x]) d2 t2
                else none
            else none by rw [← HRES.out, objGo, if_pos h34, hqt]; rfl)
          have hnm : nm.length ≤ 16000 := by
            have h1 := qt_len hqt
            have h2 := sk_le (s.data.toList.drop q)
            rw [len_drop] at h2
            omega
          have hr1q : r1.length + 2 ≤ (s.data.toList.drop q).length := Nat.le_trans (qt_le hqt) (sk_le _)
          rw [nameIs_ok h34 hqt] at HNM
          clear h34 hqt hst HRES
          go_wp2_with fail
          refine HNM.mono ?_
          rintro e w3 ⟨rfl, q3, hq3, hl3, hr3, hs3, ha3⟩
          have hst3 := HST1.out.grow hRlt ha3
          have HST3 := Lib.hid hst3
          have hsz3 := hst3.sz
          have hsk1 := sk_le r1
          generalize (t1 || (ns.map vbl).contains nm) = tt at *
          by_cases h58 : hd (sk r1) = 58
          · rw [if_pos h58] at HN
            have HT := must_yes 58 R s q3 d1 tt w3 hr3 hq3 hs (by rw [hl3]; exact h58) (by decide)
            rw [hl3] at HT
            clear hst3 hl3 h58
            obtain ⟨aL, cL, rfl, hcL, _⟩ := fresh_row HST3.out.oL
            obtain ⟨aN, cN, rfl, hcN, _⟩ := fresh_row HST3.out.oN
            have hnl : ns.length ≤ 4000 := by have := HNX.out; omega
            go_wp2_with fail
            refine HT.mono ?_
            rintro e w4 ⟨rfl, q4, hq4, hl4, hr4, ha4⟩
            have hst4 := HST3.out.grow hRlt (Aw2.ofAw ha4 M)
            have hM3 := hs3.lt
            have hs4 : Seen w4 M (xs.length + 1) (ns ++ [ofL nm]) := ownsMap_block hs3 (ha4.block M hM3 hRM.symm)
            have hstA := hst4.grow hRlt (Aw2.ofAw ((Aw.refl R w4.heap.size w4).alloc (Nat.le_refl _) (.cells #[.string (ofL nm)] 9)) M)
            have hsA := ownsMap_block hs4 (Below.heap_alloc w4 (.cells #[.string (ofL nm)] 9) M hs4.lt)
            have hrA := hr4.alloc (.cells #[.string (ofL nm)] 9)
            have hMw := hst4.mM
            have b2 := hst4.b2
            have hz4 : w.heap.size + 1 < w4.heap.size := by have := hst4.sz; omega
            have HST4 := Lib.hid hst4
            have HSA := Lib.hid hstA
            have HS4 := Lib.hid hsA
            have HRA := Lib.hid hrA
            have HL4 := Lib.hid hl4
            clear hst4 hstA hsA hrA hl4 hs4 hs3
            go_wp2_with (at_builtin; refine wpList_append_own_at _ rfl _ _ 23 rfl (w.heap.size + 2) 9 i3 (.string ⟨#[]⟩) 1 16 Tryd.underlying23 hi3 hz30 hz31 hz32 rfl (by decide) (.slice aN ns.length cN) ns.length (ns.map Value.string) rfl HSA.out.oN ⟨w4.heap.size, 0, none⟩ 1 1 [.string (ofL nm)] rfl rfl (cell_one_new _ _ _) (str_one _) (by unfold maxLen; omega) (by omega) HSA.out.sz ?_)
            intro v7 w7 hown7 hg7 _ hlie7
            obtain ⟨a7, cap7, rfl, _, _⟩ := fresh_row hown7
            have hm7 := HSA.out.name hown7 hg7 (by rw [show (w4.alloc (.cells #[.string (ofL nm)] 9)).heap.size = w4.heap.size + 1 from by simp]; exact hlie7) HS4.out.lt
            obtain ⟨c7, f7⟩ := HSA.out.boxN hg7
            have e7 := (c7 2).trans HSA.out.b2
            have hgM : (Value.slice aN ns.length cN).ownBlock ≠ some M := HSA.out.mN
            have hgR : (Value.slice aN ns.length cN).ownBlock ≠ some R := fun e => by have := (HSA.out.oN.lt R e).1; omega
            have hMb : w.heap.size + 2 ≤ M := by
              rcases hMw with e | e
              · exact absurd e.symm hRM
              · exact e
            have hs7 := seen_row HSA.out HS4.out hg7 hgM hMb 2 (.slice a7 (ns.length + 1) cap7)
            have hr7 := rdr_row HSA.out HRA.out hg7 hgR hRlt 2 (.slice a7 (ns.length + 1) cap7)
            have HM7 := Lib.hid hm7
            clear c7 hg7 hown7 hlie7 hm7 HSA HS4 HRA
            go_upto_region 9 with fail
            generalize w7.setCell ⟨w.heap.size + 1, 2, none⟩ (.slice a7 (ns.length + 1) cap7) = W7 at *
            have hwrap : IntKind.i64.wrap ((dep : Int) + 1) = (dep : Int) + 1 := IntWalk.i64_in _ (by omega)
            have hl2n : ((sk r1).drop 1).length ≤ r1.length := by rw [List.length_drop]; omega
            have hC : ∀ W, Rdr W R s q4 d1 tt → Calls Tryd.prog 31 #[.pointer (some ⟨R, 0, none⟩), .int .i64 ((dep : Int) + 1)] W (VIs R s f W (pv f (dep + 1) d1 tt ((sk r1).drop 1))) := fun W hW => by
              have := HI.out q4 d1 tt W hW hq4 (by rw [HL4.out]; omega)
              rw [show ((dep + 1 : Nat) : Int) = (dep : Int) + 1 by omega, HL4.out] at this
              exact this
            have hNL : (ns ++ [ofL nm]).length = ns.length + 1 := by simp
            have hNZ : ∀ m ∈ ns ++ [ofL nm], m.size ≤ 16000 := fun m hm => by
              rcases List.mem_append.1 hm with hm | hm
              · exact hnz m hm
              · simp at hm; subst hm; exact hnm
            have HNL := Lib.hid hNL
            have HNZ := Lib.hid hNZ
            have hMs7 := hs7.lt
            clear hNL hNZ hnz HST4 HST3 HST1 e7 f7
            generalize ns ++ [ofL nm] = ns' at *
            have hszr := HM7.out.sz
            have hRr := hr7.lt
            have b3 := HM7.out.b3
            have HR := Lib.hid hr7
            have HSN := Lib.hid hs7
            clear hr7 hs7 b2
            cases hv : pv f (dep + 1) d1 tt ((sk r1).drop 1) with
            | none =>
              rw [hv] at HN hC
              have HC := Lib.hid hC
              clear hv hC
              go_region_with ((go_at_call 31); (with_reducible refine (HC.out _ HR.out.drew).mono ?_); rintro e w3 ⟨rfl, ha3⟩; refine viaAny (P := Tryd.prog) .text { tmps := #[], defers := [] } w3 ?_)
              all_goals
                refine ⟨rfl, ?_⟩
                rw [HN.out]
                exact ⟨rfl, HM7.out.aw.trans (ha3.fromDrew.mono (by show w.heap.size ≤ W7.heap.size; omega))⟩
            | some o =>
              obtain ⟨x, r2, d2, t2⟩ := o
              have hless := pv_less f (dep + 1) _ _ _ _ _ _ _ hv
              rw [hv] at HN hC
              have HC := Lib.hid hC
              clear hv hC
              go_region_law (first
                | (refine step_append_lies _ rfl (.tmp 27) (.tmp 32) 24 rfl (w.heap.size + 2) 26 i2 (.agg #[.int .i64 0, .string ⟨#[]⟩, .slice none 0 0, .slice none 0 0]) 4 72 Tryd.underlying24 hi2 hz20 hz21 hz22 rfl (by decide) (.slice aL xs.length cL) xs.length cs (by simp [Act.eval]) HA3.out.oL ⟨w3.heap.size, 0, none⟩ 1 1 [.int .i64 x.k, .string x.s, .slice an x.ns.length cn, .slice ap x.ps.length cp] (by simp [Act.eval]) rfl HC4.out HO4.out (by decide) (by unfold maxLen; omega) (by omega) HZ4.out (w3.heap.size + 1) HS4.out ?_; intro g8 cap8 w8 hown8 hg8 hlie8 hl8; obtain ⟨c8, f8⟩ := HA3.out.boxL hg8; have e8 := (c8 3).trans HA3.out.b3; clear c8)
                | (go_simp; (go_at_call 31); (with_reducible refine (HC.out _ HR.out.drew).mono ?_); rintro e w3 ⟨v, rfl, hR, q3, hq3, hl3, hr3, ha3⟩; obtain ⟨an, cn, ap, cp, rfl⟩ := hR.shape; have HW := Lib.hid (list_arm HM7.out hRlt hMs7 ha3.fromDrew hR); have b33 := HW.out.1; have hlt3 : w.heap.size + 1 < w3.heap.size := (by have h1 := ha3.fromDrew.size; omega); have HA3 := Lib.hid HW.out.2.1; have HX3 := Lib.hid HW.out.2.2; have HC4 := Lib.hid (cell_four_new w3 (.int .i64 x.k) (.string x.s) (.slice an x.ns.length cn) (.slice ap x.ps.length cp) 26); have HO4 := Lib.hid (four_one x.k x.s an x.ns.length cn ap x.ps.length cp); have HZ4 := Lib.hid HA3.out.sz; have HS4 : Hid ((w3.alloc (.cells #[.int .i64 x.k, .string x.s, .slice an x.ns.length cn, .slice ap x.ps.length cp] 26)).heap.size = w3.heap.size + 1) := Lib.hid (by simp); have HL3 := Lib.hid hl3; have HR3 := Lib.hid hr3; have HA0 := Lib.hid ha3.fromDrew; clear hl3 hr3 ha3 hR HW))
              all_goals
                have hM3 : M < w3.heap.size := Nat.lt_of_lt_of_le hMs7 HA0.out.size
                have hm8 := HA3.out.list HX3.out hown8 hg8 (by
                  rcases hlie8 with e | e
                  · exact .inl e.symm
                  · exact .inr (by rw [HS4.out, e]; rfl)) (by rw [HS4.out]; omega)
                have hgM8 : (Value.slice aL xs.length cL).ownBlock ≠ some M := HA3.out.mL
                have hgR8 : (Value.slice aL xs.length cL).ownBlock ≠ some R := fun e => by have := (HA3.out.oL.lt R e).1; omega
                have hsn3 : Seen w3 M (xs.length + 1) ns' := ownsMap_block HSN.out (HA0.out.block M hMs7 hRM.symm)
                have hs8 := seen_row HA3.out (ownsMap_block hsn3 (Below.heap_alloc w3 (.cells #[.int .i64 x.k, .string x.s, .slice an x.ns.length cn, .slice ap x.ps.length cp] 26) M hM3)) hg8 hgM8 hMb 3 (.slice (some ⟨g8, 0, none⟩) (xs.length + 1) cap8)
                have hr8 := rdr_row HA3.out (HR3.out.alloc _) hg8 hgR8 hRlt 3 (.slice (some ⟨g8, 0, none⟩) (xs.length + 1) cap8)
                generalize w8.setCell ⟨w.heap.size + 1, 3, none⟩ (.slice (some ⟨g8, 0, none⟩) (xs.length + 1) cap8) = W8 at *
                have HM8 := Lib.hid hm8
                have HSN8 := Lib.hid hs8
                clear hm8 e8 f8 hg8 hown8 hlie8 HC4 HO4 HZ4 HS4 HX3 HA3 HA0 b33 hsn3 hs8
                have hL3 := HL3.out
                have hsk3 := sk_le r2
                by_cases h125 : hd (sk r2) = 125
                · have HT := take_yes 125 R s q3 d2 t2 W8 hr8 hq3 hs (by rw [hL3]; exact h125) (by decide)
                  have HE := Lib.hid (show RES = some (.mk 8 e0 ns' (xs ++ [x]), (sk r2).drop 1, d2, t2) from HN.out.trans (if_pos h125))
                  rw [hL3] at HT
                  clear h125 hL3
                  go_wp2_with fail
                  refine HT.mono ?_
                  rintro e w9 ⟨rfl, q9, hq9, hl9, hr9, ha9⟩
                  have hm9 := HM8.out.grow hRlt (Aw2.ofAw ha9 M)
                  have HM9 := Lib.hid hm9
                  have HL9 := Lib.hid hl9
                  obtain ⟨_, hsz, b0, b1, b2, b3, bf, ⟨r0, r1', r2', r3, rf⟩, _⟩ := hm9
                  clear hl9
                  go_wp2_with fail
                  refine bodyPost_ret (v := .agg #[.int .i64 8, .string ⟨#[]⟩, .slice a7 (ns.length + 1) cap7, .slice (some ⟨g8, 0, none⟩) (xs.length + 1) cap8]) (by simp [results, Tryd.results41, go_sem, r0, r1', r2', r3]) rfl ?_
                  rw [HE.out]
                  have hR : R ≠ w.heap.size := by omega
                  exact ⟨_, rfl, HM9.out.done (by rw [List.length_append, List.length_singleton]; omega) (by rw [HNL.out]; have := HNX.out; omega) HNZ.out _ (fun b o hb => World.cell?_of_block (a := ⟨b, o, none⟩) (heap_four _ _ _ _ _ _ _ hb)) (size_four _ _ _ _ _ _), q9, hq9, HL9.out, hr9.four hR _ _ _ _, HM9.out.aw.four (Nat.le_refl _) _ _ _ _⟩
                · have HT := take_no 125 R s q3 d2 t2 W8 hr8 hq3 hs (by rw [hL3]; exact h125)
                  rw [hL3] at HT
                  by_cases h44 : hd (sk r2) = 44
                  · have HE := Lib.hid (show RES = objGo (pv f (dep + 1)) k ((sk r2).drop 1) ns' (xs ++ [x]) d2 t2 from HN.out.trans ((if_neg h125).trans (if_pos h44)))
                    have H44 := Lib.hid h44
                    clear h125 h44 hL3
                    go_wp2_with fail
                    refine HT.mono ?_
                    rintro e w9 ⟨rfl, q9, hq9, hl9, hr9, ha9⟩
                    have hm9 := HM8.out.grow hRlt (Aw2.ofAw ha9 M)
                    have hs9 : Seen w9 M (xs.length + 1) ns' := ownsMap_block HSN8.out (ha9.block M HSN8.out.lt hRM.symm)
                    have HT2 := must_yes 44 R s q9 d2 t2 w9 hr9 hq9 hs (by rw [hl9, sk_sk]; exact H44.out) (by decide)
                    rw [hl9, sk_sk] at HT2
                    have HM9 := Lib.hid hm9
                    have HSN9 := Lib.hid hs9
                    clear hl9 hm9 hs9
                    go_wp2_with fail
                    refine HT2.mono ?_
                    rintro e w10 ⟨rfl, q10, hq10, hl10, hr10, ha10⟩
                    have hm10 := HM9.out.grow hRlt (Aw2.ofAw ha10 M)
                    have hs10 : Seen w10 M (xs.length + 1) ns' := ownsMap_block HSN9.out (ha10.block M HSN9.out.lt hRM.symm)
                    have HL10 := Lib.hid hl10
                    have HM10 := Lib.hid hm10
                    have HS10 := Lib.hid hs10
                    clear hl10 hm10 hs10
                    have hdl : ((sk r2).drop 1).length ≤ r2.length := by rw [List.length_drop]; omega
                    go_wp2_with fail
                    go_roundg k
                    case measure => omega
                    case rel => exact ⟨k, (sk r2).drop 1, ns', xs ++ [x], d2, t2, _, _, _, q10, rfl, hq10, HL10.out, by omega, by omega, by rw [List.length_append, List.length_singleton]; omega, Lib.hid (by rw [HNL.out, HNX.out, List.length_append, List.length_singleton]), HNZ.out, hr10, HM10.out, by rw [List.length_append, List.length_singleton]; exact HS10.out, HE.out.symm⟩
                  · have HE := Lib.hid (show RES = none from HN.out.trans ((if_neg h125).trans (if_neg h44)))
                    have H44 := Lib.hid h44
                    clear h125 h44 hL3
                    go_wp2_with fail
                    refine HT.mono ?_
                    rintro e w9 ⟨rfl, q9, hq9, hl9, hr9, ha9⟩
                    have hm9 := HM8.out.grow hRlt (Aw2.ofAw ha9 M)
                    have HT2 := must_no 44 R s q9 d2 t2 w9 hr9 hq9 hs (by rw [hl9, sk_sk]; exact H44.out)
                    have HM9 := Lib.hid hm9
                    clear hl9 hm9
                    go_wp2_with fail
                    refine HT2.mono ?_
                    rintro e w10 ⟨rfl, ha10⟩
                    refine ⟨rfl, ?_⟩
                    rw [HE.out]
                    exact ⟨rfl, HM9.out.aw.trans (ha10.mono (by have := HM9.out.sz; omega))⟩
          · rw [if_neg h58] at HN
            have HT := must_no 58 R s q3 d1 tt w3 hr3 hq3 hs (by rw [hl3]; exact h58)
            clear hst3 hl3 h58
            go_wp2_with fail
            refine HT.mono ?_
            rintro e w4 ⟨rfl, ha4⟩
            refine ⟨rfl, ?_⟩
            rw [HN.out]
            exact ⟨rfl, HST3.out.aw.trans (ha4.mono (by omega))⟩
      · have HN := Lib.hid (show RES = none by rw [← HRES.out, objGo, if_neg h34])
        rw [nameIs_no h34] at HNM
        clear h34 hst
        go_wp2_with fail
        refine HNM.mono ?_
        rintro e w3 ⟨rfl, ha3⟩
        refine ⟨rfl, ?_⟩
        rw [HN.out]
        exact ⟨rfl, HST1.out.aw.trans (ha3.mono (by omega))⟩

end Go.Proofs.YtbcenaljaoejkaaDoor
