/-
  value's reader: what object answers.
-/
import Derived.Test.YtkahnlgedacppaaGreatDoorMV4
namespace Go.Proofs.YtkahnlgedacppaaGreatDoor
open Go.RowKit

/-- One more of the object is to be read; what comes of it all is RES. -/
def ORelV (w : World) (R : Nat) (a : Option Addr) (cap : Nat) (ts : List Tk) (f : Nat) (V : List Sk → VR) (RES : VR) (k : Nat) (wr : World) : Prop :=
  ∃ (j : Nat) (ns : List ByteArray) (xs : List JV) (cs : List Value) (vN vL : Value) (q : Nat), j = k ∧ (ahead ts q).length < j ∧ xs.length + (ahead ts q).length ≤ 9000 ∧ Hid (ns.length = xs.length) ∧ (∀ m ∈ ns, m.size ≤ 1000000) ∧ Rv wr R a cap ts q ∧ JSt w R R 8 (f + 1) ns xs cs vN vL wr ∧ vObjGo V j (ahead ts q) ns xs = RES

theorem cell_second (w : World) (o : Obj) (c : Value) (T : TypeId) : ∀ j u, [c][j]? = some u → ((w.alloc o).alloc (.cells #[c] T)).cell? ((⟨w.heap.size + 1, 0, none⟩ : Addr).add j) = some u := by
  intro j u hj
  rw [Go.WideShapes.add_plain, Nat.zero_add]
  have hb : ((w.alloc o).alloc (.cells #[c] T)).heap[w.heap.size + 1]? = some (.cells #[c] T (0, 0)) := by
    have := heap_alloc_new (w.alloc o) (.cells #[c] T)
    rw [show (w.alloc o).heap.size = w.heap.size + 1 from by simp] at this
    exact this
  rw [Lib.cell_of_heap hb j]
  rw [← hj, ← Array.getElem?_toList]
/-- A value that was read is there behind the store of the name. -/
theorem name_rd {w W W' : World} {M : Nat} {vN vL vN' : Value} (hg : W.grownBy W' vN.ownBlock)
    (hlie : vN'.ownBlock = vN.ownBlock ∨ vN'.ownBlock = some W.heap.size) {d : Nat} {x : JV} {v : Value} (hx : RdD W (JD w M W vN vL) d x v) :
    RdD (W'.setCell ⟨w.heap.size + 1, 2, none⟩ vN') (JD w M (W'.setCell ⟨w.heap.size + 1, 2, none⟩ vN') vN' vL) d x v := by
  have hz := hg.size
  have hsz : (W'.setCell ⟨w.heap.size + 1, 2, none⟩ vN').heap.size = W'.heap.size := by simp [World.setCell]
  have hblk : ∀ b, b < W.heap.size → vN.ownBlock ≠ some b → W'.heap[b]? = W.heap[b]? := fun b hb hn => hg.block b hb (by first | exact hn | exact fun e => hn e.symm)
  have h1 : ∀ b, JD w M W vN vL b → vN'.ownBlock ≠ some b := fun b hd => by
    rcases hlie with e | e
    · rw [e]; exact hd.2.2.1
    · rw [e]; intro e2; have := Option.some.inj e2; have := hd.2.1; omega
  have h2 : ∀ b o, JD w M W vN vL b → (W'.setCell ⟨w.heap.size + 1, 2, none⟩ vN').cell? ⟨b, o, none⟩ = W.cell? ⟨b, o, none⟩ := fun b o hd => by
    have h1 := hd.1
    rw [World.cell?_setCell_other _ _ _ _ (by intro e; have := congrArg Addr.block e; simp at this; omega)]
    exact World.cell?_of_block (a := ⟨b, o, none⟩) (hblk b hd.2.1 hd.2.2.1)
  exact RdD.step (fun b hd => ⟨hd.1, by rw [hsz]; have := hd.2.1; omega, h1 b hd, hd.2.2.2⟩) h2 hx
theorem jd_below {w W W' : World} {R M : Nat} {kk : Int} {f : Nat} {ns : List ByteArray} {xs : List JV} {cs : List Value} {vN vL : Value} (h : JSt w R M kk f ns xs cs vN vL W) (hR : R < w.heap.size) {d : Nat} {x : JV} {v : Value} (hx : RdD W (JD w M W vN vL) d x v) (hb : Below W.heap.size W W') : JSt w R M kk f ns xs cs vN vL W' ∧ RdD W' (JD w M W' vN vL) d x v := by
  have hz := hb.size
  exact ⟨h.grow hR (Aw2.ofAw (Aw.of hb) M), RdD.step (fun b hd => ⟨hd.1, by have := hd.2.1; omega, hd.2.2⟩) (fun b o hd => World.cell?_of_block (a := ⟨b, o, none⟩) (hb.block b hd.2.1)) hx⟩

/-- The reader behind an append to one of the rows. -/
theorem rv_row {w W W' : World} {R : Nat} {a : Option Addr} {cap : Nat} {ts : List Tk} {p0 q : Nat} (h0 : Rv w R a cap ts p0) (hr : Rv W R a cap ts q) (hz : w.heap.size ≤ W.heap.size) {ob : Option Nat} (hg : W.grownBy W' ob) (hob : ∀ g, ob = some g → w.heap.size ≤ g) (j : Nat) (v : Value) : Rv (W'.setCell ⟨w.heap.size + 1, j, none⟩ v) R a cap ts q := by
  have hRlt := h0.lt
  have hgo : ∀ b, b < w.heap.size → W'.heap[b]? = W.heap[b]? := fun b hb => hg.block b (by omega) (fun e => by
    have := hob b (by first | exact e | exact e.symm)
    omega)
  refine hr.keepT ?_ (fun g o e hp => ?_)
  · rw [Below.heap_setCell _ _ _ _ (show R ≠ w.heap.size + 1 by omega)]
    exact hgo R hRlt
  · have hg := h0.tokLt g o e hp
    rw [Below.heap_setCell _ _ _ _ (show g ≠ w.heap.size + 1 by omega)]
    exact hgo g hg

set_option maxHeartbeats 8000000 in
set_option maxRecDepth 100000 in
theorem vobject_any {R : Nat} {a : Option Addr} {cap : Nat} {ts : List Tk} {p : Nat} (f dep n : Nat) (w : World) (h : Rv w R a cap ts p) (hdep : dep ≤ 12) (hn : (ahead ts p).length < n) (ih : ValOkV R a cap ts f (dep + 1)) :
    Calls Tryz.prog 348 #[.pointer (some ⟨R, 0, none⟩), .int .i64 dep] w (VIsV R a cap ts (f + 2) w (vObjGo (pvT f) n (ahead ts p) [] [])) := by
  obtain ⟨i2, hi2, hz20, hz21, hz22⟩ := info_parts infoVal
  obtain ⟨i3, hi3, hz30, hz31, hz32⟩ := info_parts infoStr
  have HI := Lib.hid ih
  have HH := Lib.hid h
  have hRlt := h.lt
  have hts := h.hs
  have hl9 : (ahead ts p).length ≤ 9000 := by rw [ahead_len]; omega
  clear ih
  have HR0 := Lib.hid ((h.alloc (.cells #[.int .i64 0, .string ⟨#[]⟩, .slice none 0 0, .slice none 0 0] 52)).alloc (.cells #[.int .i64 8, .string ⟨#[]⟩, .slice none 0 0, .slice none 0 0] 52))
  have HS0 := Lib.hid (jst_init w _ R R 8 (f + 1) hRlt (.inl rfl) (Aw.refl R (w.heap.size + 2) ((w.alloc (.cells #[.int .i64 0, .string ⟨#[]⟩, .slice none 0 0, .slice none 0 0] 52)).alloc (.cells #[.int .i64 8, .string ⟨#[]⟩, .slice none 0 0, .slice none 0 0] 52))))
  clear h
  go_enter Tryz.func348, Tryz.ntmps348
  go_wp2_with fail
  go_loopg [7, 8, 9, 10] n (fun k _ _ _ _ wr => ORelV w R a cap ts f (pvT f) (vObjGo (pvT f) n (ahead ts p) [] []) k wr)
  case atStart => exact ⟨n, [], [], [], _, _, p, rfl, hn, by simpa using hl9, Lib.hid rfl, by simp, HR0.out, HS0.out, rfl⟩
  case round =>
    obtain ⟨j, ns, xs, cs, vN, vL, q, rfl, hj, hxl, hnx, hnz, hr, hst, hres⟩ := hrel
    generalize vObjGo (pvT f) n (ahead ts p) [] [] = RES at *
    clear HR0 HS0 hn hl9
    obtain ⟨k, rfl⟩ : ∃ k', j = k' + 1 := ⟨j - 1, by omega⟩
    have HRES := Lib.hid hres
    have HR := Lib.hid hr
    have HNZ := Lib.hid hnz
    have hRr := hr.lt
    have HST := Lib.hid hst
    clear hres hnz
    by_cases h125 : sg (hdK (ahead ts q)) 125 = true
    · have HT := takeSign_yes 125 wr hr h125
      have HU := Lib.hid (show RES = (.mk 8 ⟨#[]⟩ ns xs, (ahead ts q).tail, 0) by rw [← HRES.out]; unfold vObjGo; rw [if_pos h125])
      clear h125 hr hst
      go_wp2_with fail
      refine HT.mono ?_
      rintro e w2 ⟨rfl, q2, hl2, hr2, ha2⟩
      have hst2 := HST.out.grow hRlt (Aw2.ofAw ha2 R)
      have HST2 := Lib.hid hst2
      have HL2 := Lib.hid hl2
      obtain ⟨aL, cL, rfl, _, _⟩ := fresh_row hst2.oL
      obtain ⟨aN, cN, rfl, _, _⟩ := fresh_row hst2.oN
      obtain ⟨_, hsz, b0, b1, b2, b3, bf, ⟨r0, r1, r2, r3, rf⟩, _⟩ := hst2
      clear hl2
      go_wp2_with fail
      refine bodyPost_ret (v := .tuple #[.agg #[.int .i64 8, .string ⟨#[]⟩, .slice aN ns.length cN, .slice aL xs.length cL], .int .i64 0]) (by simp [results, Tryz.results348, go_sem, r0, r1, r2, r3]) rfl ?_
      rw [HU.out]
      have hnx' := hnx.out
      exact list_end HH.out HST2.out HL2.out hr2 (by omega) (by omega) HNZ.out
    · have h125 : sg (hdK (ahead ts q)) 125 = false := by simpa using h125
      have HT := takeSign_no 125 wr hr h125
      by_cases h1 : (hdK (ahead ts q)).1 = 1
      · by_cases h58 : sg (hdK (ahead ts q).tail) 58 = true
        · -- a name and its value
          have HV := Lib.hid (show RES = if (pvT f (ahead ts q).tail.tail).2.2 = 0 then vObjGo (pvT f) k (pvT f (ahead ts q).tail.tail).2.1 (ns ++ [⟨(hdK (ahead ts q)).2.toArray⟩]) (xs ++ [(pvT f (ahead ts q).tail.tail).1]) else (vz, (pvT f (ahead ts q).tail.tail).2.1, (pvT f (ahead ts q).tail.tail).2.2) by rw [← HRES.out, vObjGo, if_neg (by rw [h125]; decide), if_pos h1, if_pos h58])
          have hless := pvT_less f (ahead ts q).tail.tail
          have htt : (ahead ts q).tail.tail.length ≤ (ahead ts q).length := by rw [List.length_tail, List.length_tail]; omega
          have hwrap : IntKind.i64.wrap ((dep : Int) + 1) = (dep : Int) + 1 := IntWalk.i64_in _ (by omega)
          have H1 := Lib.hid h1
          have H58 := Lib.hid h58
          clear h125 hr hst h1 h58
          go_wp2_with fail
          refine HT.mono ?_
          rintro e w2 ⟨rfl, hb2⟩
          have hr2 := HR.out.below hb2
          have hst2 := HST.out.grow hRlt (Aw2.ofAw (Aw.of hb2) R)
          have HT2 := takeName_yes w2 hr2 H1.out
          have HST2 := Lib.hid hst2
          clear hr2 hst2 hb2
          go_wp2_with fail
          refine HT2.mono ?_
          rintro e wa ⟨rfl, hzn, qa, hla, hra, haa⟩
          have hsta := HST2.out.grow hRlt (Aw2.ofAw haa R)
          have HT3 := takeSign_yes 58 wa hra (by rw [hla]; exact H58.out)
          rw [hla] at HT3
          have HSTa := Lib.hid hsta
          have HZN := Lib.hid hzn
          clear hsta hla hra haa hzn
          go_wp2_with fail
          refine HT3.mono ?_
          rintro e wb ⟨rfl, qb, hlb, hrb, hab⟩
          have hstb := HSTa.out.grow hRlt (Aw2.ofAw hab R)
          have HC := HI.out qb wb hrb
          rw [hlb, show ((dep + 1 : Nat) : Int) = (dep : Int) + 1 by omega] at HC
          have hRb := hrb.lt
          have HSTb := Lib.hid hstb
          generalize hnm : (hdK (ahead ts q)).2 = nm at *
          generalize pvT f (ahead ts q).tail.tail = RV at *
          obtain ⟨x, l', er⟩ := RV
          clear hstb hlb hrb hab hnm HI
          go_wp2_with fail
          refine HC.mono ?_
          rintro e w3 ⟨⟨q3, hl3, hr3, ha3⟩, hv⟩
          dsimp only at hl3 hv hless HV
          by_cases he : er = 0
          · subst he
            rw [if_pos rfl] at hv
            obtain ⟨v, rfl, hRd⟩ := hv
            obtain ⟨an, cn, ap, cp, rfl⟩ := hRd.shape
            have HN := Lib.hid (show RES = vObjGo (pvT f) k l' (ns ++ [⟨nm.toArray⟩]) (xs ++ [x]) by rw [HV.out, if_pos rfl])
            have hlt := hless rfl
            obtain ⟨b33, b32, bf3, hW⟩ := list_armG HSTb.out hRlt hRb ha3 hRd
            have hlt3 : w.heap.size + 1 < w3.heap.size := by have h1 := ha3.size; have := HSTb.out.sz; omega
            obtain ⟨aL, cL, rfl, hcL, _⟩ := fresh_row HSTb.out.oL
            obtain ⟨aN, cN, rfl, hcN, _⟩ := fresh_row HSTb.out.oN
            have hb5 : Below w3.heap.size w3 ((w3.alloc (.cells #[.int .i64 x.k, .string x.s, .slice an x.ns.length cn, .slice ap x.ps.length cp] 52)).alloc (.cells #[.string ⟨nm.toArray⟩] 9)) := ((Below.refl _ w3).alloc (Nat.le_refl _) _).alloc (by simp) _
            obtain ⟨hA, hX⟩ := hW _ hb5
            have HA := Lib.hid hA
            have HX := Lib.hid hX
            have HC4 := Lib.hid (cell_second w3 (.cells #[.int .i64 x.k, .string x.s, .slice an x.ns.length cn, .slice ap x.ps.length cp] 52) (.string ⟨nm.toArray⟩) 9)
            have HP4 := Lib.hid (show ∀ j u, [Value.int .i64 x.k, .string x.s, .slice an x.ns.length cn, .slice ap x.ps.length cp][j]? = some u → ((w3.alloc (.cells #[.int .i64 x.k, .string x.s, .slice an x.ns.length cn, .slice ap x.ps.length cp] 52)).alloc (.cells #[.string ⟨nm.toArray⟩] 9)).cell? ⟨w3.heap.size, j, none⟩ = some u from fun j u hu => by
              have := cell_four_new w3 (.int .i64 x.k) (.string x.s) (.slice an x.ns.length cn) (.slice ap x.ps.length cp) 52 j u hu
              rw [Go.WideShapes.add_plain, Nat.zero_add] at this
              exact (World.cell?_of_block (a := ⟨w3.heap.size, j, none⟩) (Below.heap_alloc _ _ _ (by simp))).trans this)
            have HO4 := Lib.hid (str_one ⟨nm.toArray⟩)
            have HZ4 := Lib.hid hA.sz
            have HS4 : Hid (((w3.alloc (.cells #[.int .i64 x.k, .string x.s, .slice an x.ns.length cn, .slice ap x.ps.length cp] 52)).alloc (.cells #[.string ⟨nm.toArray⟩] 9)).heap.size = w3.heap.size + 2) := Lib.hid (by simp)
            have HL3 := Lib.hid hl3
            have HR3 := Lib.hid (hr3.below hb5)
            have hnb : ns.length ≤ 9000 := by have := hnx.out; omega
            have hNlt : ∀ g, (Value.slice aN ns.length cN).ownBlock = some g → w.heap.size + 2 ≤ g ∧ g < wb.heap.size := fun g e => HSTb.out.oN.lt g e
            have HNL := Lib.hid hNlt
            have hz3 := ha3.size
            clear hl3 hr3 ha3 hRd hW hA hX hb5 HV HC hNlt
            go_wp2_with (at_builtin; refine wpList_append_lies _ rfl _ _ 41 rfl (w.heap.size + 2) 9 i3 (.string ⟨#[]⟩) 1 16 Tryz.underlying41 hi3 hz30 hz31 hz32 rfl (by decide) (.slice aN ns.length cN) ns.length (ns.map Value.string) rfl HA.out.oN ⟨w3.heap.size + 1, 0, none⟩ 1 1 [.string ⟨nm.toArray⟩] rfl rfl HC4.out HO4.out (by decide) (by unfold maxLen; omega) (by omega) HZ4.out (w3.heap.size + 2) HS4.out ?_)
            intro g7 cap7 w7 hown7 hg7 hlie7 hl7
            obtain ⟨c7, f7⟩ := HA.out.boxN hg7
            have e7 := (c7 2).trans HA.out.b2
            have hlieN : (Value.slice (some ⟨g7, 0, none⟩) (ns.length + 1) cap7).ownBlock = (Value.slice aN ns.length cN).ownBlock ∨ (Value.slice (some ⟨g7, 0, none⟩) (ns.length + 1) cap7).ownBlock = some ((w3.alloc (.cells #[.int .i64 x.k, .string x.s, .slice an x.ns.length cn, .slice ap x.ps.length cp] 52)).alloc (.cells #[.string ⟨nm.toArray⟩] 9)).heap.size := by
              rcases hlie7 with e | e
              · exact .inl e.symm
              · exact .inr (by rw [HS4.out, e]; rfl)
            have hm7 := HA.out.name hown7 hg7 hlieN (by rw [HS4.out]; omega)
            have hx7 := name_rd hg7 hlieN HX.out
            have hr7 := rv_row HH.out HR3.out (by rw [HS4.out]; omega) hg7 (fun g e => by have := (HNL.out g e).1; omega) 2 (.slice (some ⟨g7, 0, none⟩) (ns.length + 1) cap7)
            have hs7 : w3.heap.size < (w7.setCell ⟨w.heap.size + 1, 2, none⟩ (.slice (some ⟨g7, 0, none⟩) (ns.length + 1) cap7)).heap.size := by
              have := hg7.size
              rw [HS4.out] at this
              have e : (w7.setCell ⟨w.heap.size + 1, 2, none⟩ (.slice (some ⟨g7, 0, none⟩) (ns.length + 1) cap7)).heap.size = w7.heap.size := by simp [World.setCell]
              omega
            have hp7 : ∀ j u, [Value.int .i64 x.k, .string x.s, .slice an x.ns.length cn, .slice ap x.ps.length cp][j]? = some u → (w7.setCell ⟨w.heap.size + 1, 2, none⟩ (.slice (some ⟨g7, 0, none⟩) (ns.length + 1) cap7)).cell? ⟨w3.heap.size, j, none⟩ = some u := fun j u hu => by
              rw [World.cell?_setCell_other _ _ _ _ (by intro e; have := congrArg Addr.block e; simp at this; omega)]
              rw [World.cell?_of_block (a := ⟨w3.heap.size, j, none⟩) (hg7.block w3.heap.size (by rw [HS4.out]; omega) (fun e => by
                have := (HNL.out w3.heap.size (by first | exact e | exact e.symm)).2
                omega))]
              exact HP4.out j u hu
            have HM7 := Lib.hid hm7
            have HX7 := Lib.hid hx7
            have HR7 := Lib.hid hr7
            have HS7 := Lib.hid hs7
            have HP7 := Lib.hid hp7
            clear c7 hg7 hown7 hlie7 hlieN hm7 hx7 hr7 hs7 hp7 HC4 HO4 HZ4 HS4 HX HA HP4
            go_upto_region 10 with fail
            generalize w7.setCell ⟨w.heap.size + 1, 2, none⟩ (.slice (some ⟨g7, 0, none⟩) (ns.length + 1) cap7) = W7 at *
            have q0 := HP7.out 0 _ rfl
            have q1 := HP7.out 1 _ rfl
            have q2 := HP7.out 2 _ rfl
            have q3' := HP7.out 3 _ rfl
            have b73 := HM7.out.b3
            have hlt7 : w.heap.size + 1 < W7.heap.size := by have := HM7.out.sz; omega
            have hb8 : Below W7.heap.size W7 (W7.alloc (.cells #[.int .i64 x.k, .string x.s, .slice an x.ns.length cn, .slice ap x.ps.length cp] 52)) := (Below.refl _ W7).alloc (Nat.le_refl _) _
            obtain ⟨hA8, hX8⟩ := jd_below HM7.out hRlt HX7.out hb8
            have HA8 := Lib.hid hA8
            have HX8 := Lib.hid hX8
            have HR8 := Lib.hid (HR7.out.below hb8)
            have HC8 := Lib.hid (cell_four_new W7 (.int .i64 x.k) (.string x.s) (.slice an x.ns.length cn) (.slice ap x.ps.length cp) 52)
            have HO8 := Lib.hid (four_one x.k x.s an x.ns.length cn ap x.ps.length cp)
            have HZ8 := Lib.hid hA8.sz
            have HS8 : Hid ((W7.alloc (.cells #[.int .i64 x.k, .string x.s, .slice an x.ns.length cn, .slice ap x.ps.length cp] 52)).heap.size = W7.heap.size + 1) := Lib.hid (by simp)
            clear hA8 hX8 hb8 HM7 HX7 HR7 HP7
            go_wp2_with (at_builtin; refine wpList_append_lies _ rfl _ _ 50 rfl (w.heap.size + 2) 52 i2 (.agg #[.int .i64 0, .string ⟨#[]⟩, .slice none 0 0, .slice none 0 0]) 4 72 Tryz.underlying50 hi2 hz20 hz21 hz22 rfl (by decide) (.slice aL xs.length cL) xs.length cs rfl HA8.out.oL ⟨W7.heap.size, 0, none⟩ 1 1 [.int .i64 x.k, .string x.s, .slice an x.ns.length cn, .slice ap x.ps.length cp] rfl rfl HC8.out HO8.out (by decide) (by unfold maxLen; omega) (by omega) HZ8.out (W7.heap.size + 1) HS8.out ?_)
            intro g9 cap9 w9 hown9 hg9 hlie9 hl9
            obtain ⟨c9, f9⟩ := HA8.out.boxL hg9
            have e9 := (c9 3).trans HA8.out.b3
            have hm9 := HA8.out.list HX8.out hown9 hg9 (by
              rcases hlie9 with e | e
              · exact .inl e.symm
              · exact .inr (by rw [HS8.out, e]; rfl)) (by rw [HS8.out]; have := HS7.out; omega)
            have hr9 := rv_row HH.out HR8.out (by rw [HS8.out]; omega) hg9 (fun g e => by have := (HA8.out.oL.lt g e).1; omega) 3 (.slice (some ⟨g9, 0, none⟩) (xs.length + 1) cap9)
            have HM9 := Lib.hid hm9
            have HR9 := Lib.hid hr9
            clear hm9 hr9 c9 hg9 hown9 hlie9 HC8 HO8 HZ8 HS8 HX8 HA8 q0 q1 q2 q3'
            go_wp2_with fail
            go_roundg k
            case measure => omega
            case rel => exact ⟨k, ns ++ [⟨nm.toArray⟩], xs ++ [x], _, _, _, q3, rfl, by rw [HL3.out]; omega, by rw [HL3.out, List.length_append, List.length_singleton]; omega, Lib.hid (by rw [List.length_append, List.length_append, List.length_singleton, List.length_singleton, hnx.out]), (fun m hm => by
              rcases List.mem_append.1 hm with hm | hm
              · exact HNZ.out m hm
              · rw [List.mem_singleton.1 hm]; exact HZN.out), HR9.out, HM9.out, by rw [HL3.out]; exact HN.out.symm⟩
          · rw [if_neg he] at hv
            obtain ⟨rfl, h4⟩ := hv
            have HN := Lib.hid (show RES = (vz, l', er) by rw [HV.out, if_neg he])
            have hst3 := HSTb.out.grow hRlt (Aw2.ofAw ha3 R)
            have hne : ((er : Int) == 0) = false := by rw [beq_eq_false_iff_ne]; omega
            have HL3 := Lib.hid hl3
            have HE := Lib.hid he
            have HR3 := Lib.hid hr3
            have HA3 := Lib.hid hst3.aw
            have hlt3 : w.heap.size < w3.heap.size := by have := hst3.sz; omega
            have HF := Lib.hid (fun o => bx_fourA hst3.bx (.int .i64 0) (.string ⟨#[]⟩) (.slice none 0 0) (.slice none 0 0) o)
            obtain ⟨r0, r1, r2, r3, rf⟩ := hst3.bx
            clear hl3 hr3 ha3 HV HC hst3 he
            unfold leaf
            go_wp2_with fail
            obtain ⟨k0, k1, k2, k3⟩ := HF.out (.cells #[.int .i64 0, .string ⟨#[]⟩, .slice none 0 0, .slice none 0 0] 52)
            refine bodyPost_ret (v := .tuple #[leaf 0 ⟨#[]⟩, .int .i64 er]) (by simp [results, Tryz.results348, go_sem, k0, k1, k2, k3, leaf]) rfl ?_
            rw [HN.out]
            exact list_noneA HH.out _ HL3.out HR3.out HA3.out HE.out h4 _ _ _ _ _ _
        · -- no sign behind the name
          have h58 : sg (hdK (ahead ts q).tail) 58 = false := by simpa using h58
          have HN := Lib.hid (show RES = (vz, (ahead ts q).tail, 2) by rw [← HRES.out, vObjGo, if_neg (by rw [h125]; decide), if_pos h1, if_neg (by rw [h58]; decide)])
          have H1 := Lib.hid h1
          have H58 := Lib.hid h58
          clear h125 hr hst h1 h58
          go_wp2_with fail
          refine HT.mono ?_
          rintro e w2 ⟨rfl, hb2⟩
          have hr2 := HR.out.below hb2
          have hst2 := HST.out.grow hRlt (Aw2.ofAw (Aw.of hb2) R)
          have HT2 := takeName_yes w2 hr2 H1.out
          have HST2 := Lib.hid hst2
          clear hr2 hst2 hb2
          go_wp2_with fail
          refine HT2.mono ?_
          rintro e wa ⟨rfl, hzn, qa, hla, hra, haa⟩
          have hsta := HST2.out.grow hRlt (Aw2.ofAw haa R)
          have HT3 := takeSign_no 58 wa hra (by rw [hla]; exact H58.out)
          have HSTa := Lib.hid hsta
          have HLa := Lib.hid hla
          have HRa := Lib.hid hra
          clear hsta hla hra haa hzn
          go_wp2_with fail
          refine HT3.mono ?_
          rintro e w3 ⟨rfl, hb3⟩
          have hst3 := HSTa.out.grow hRlt (Aw2.ofAw (Aw.of hb3) R)
          have HR3 := Lib.hid (HRa.out.below hb3)
          have HA3 := Lib.hid hst3.aw
          have hlt3 : w.heap.size < w3.heap.size := by have := hst3.sz; omega
          have HF := Lib.hid (bx_four hst3.bx (.int .i64 0) (.string ⟨#[]⟩) (.slice none 0 0) (.slice none 0 0))
          obtain ⟨r0, r1, r2, r3, rf⟩ := hst3.bx
          clear hb3 hst3
          go_wp2_with fail
          obtain ⟨k0, k1, k2, k3⟩ := HF.out
          refine bodyPost_ret (v := .tuple #[leaf 0 ⟨#[]⟩, .int .i64 2]) (by simp [results, Tryz.results348, go_sem, k0, k1, k2, k3, leaf]) rfl ?_
          rw [HN.out]
          exact list_none (er := 2) HH.out _ HLa.out HR3.out HA3.out (by decide) (by decide) _ _ _ _ _
      · -- no name
        have HN := Lib.hid (show RES = (vz, ahead ts q, 2) by rw [← HRES.out, vObjGo, if_neg (by rw [h125]; decide), if_neg h1])
        have H1 := Lib.hid h1
        clear h125 hr hst h1
        go_wp2_with fail
        refine HT.mono ?_
        rintro e w2 ⟨rfl, hb2⟩
        have hr2 := HR.out.below hb2
        have hst2 := HST.out.grow hRlt (Aw2.ofAw (Aw.of hb2) R)
        have HT2 := takeName_no w2 hr2 H1.out
        have HST2 := Lib.hid hst2
        have HR2 := Lib.hid hr2
        clear hr2 hst2 hb2
        go_wp2_with fail
        refine HT2.mono ?_
        rintro e w3 ⟨rfl, hb3⟩
        have hst3 := HST2.out.grow hRlt (Aw2.ofAw (Aw.of hb3) R)
        have HR3 := Lib.hid (HR2.out.below hb3)
        have HA3 := Lib.hid hst3.aw
        have hlt3 : w.heap.size < w3.heap.size := by have := hst3.sz; omega
        have HF := Lib.hid (bx_four hst3.bx (.int .i64 0) (.string ⟨#[]⟩) (.slice none 0 0) (.slice none 0 0))
        obtain ⟨r0, r1, r2, r3, rf⟩ := hst3.bx
        clear hb3 hst3
        go_wp2_with fail
        obtain ⟨k0, k1, k2, k3⟩ := HF.out
        refine bodyPost_ret (v := .tuple #[leaf 0 ⟨#[]⟩, .int .i64 2]) (by simp [results, Tryz.results348, go_sem, k0, k1, k2, k3, leaf]) rfl ?_
        rw [HN.out]
        exact list_none (er := 2) HH.out _ rfl HR3.out HA3.out (by decide) (by decide) _ _ _ _ _

end Go.Proofs.YtkahnlgedacppaaGreatDoor
