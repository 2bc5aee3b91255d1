/-
  value's reader: what list answers.
-/
import Derived.Test.YtkahnlgedacppaaGreatDoorMV3
namespace Go.Proofs.YtkahnlgedacppaaGreatDoor
open Go.RowKit

/-- The contract of value that list and object are given. -/
def ValOkV (R : Nat) (a : Option Addr) (cap : Nat) (ts : List Tk) (f dep : Nat) : Prop :=
  ∀ (p : Nat) (W : World), Rv W R a cap ts p → Calls Tryz.prog 323 #[.pointer (some ⟨R, 0, none⟩), .int .i64 dep] W (VIsV R a cap ts (f + 1) W (pvT f (ahead ts p)))

/-- One more of the list is to be read; what comes of it all is RES. -/
def LRelV (w : World) (R : Nat) (a : Option Addr) (cap : Nat) (ts : List Tk) (f : Nat) (V : List Sk → VR) (RES : VR) (k : Nat) (wr : World) : Prop :=
  ∃ (j : Nat) (xs : List JV) (cs : List Value) (vN vL : Value) (q : Nat), j = k ∧ (ahead ts q).length < j ∧ xs.length + (ahead ts q).length ≤ 9000 ∧ Rv wr R a cap ts q ∧ JSt w R R 7 (f + 1) [] xs cs vN vL wr ∧ vListGo V j (ahead ts q) xs = RES

theorem list_armG {w W w3 : World} {R M : Nat} {kk : Int} {f : Nat} {ns : List ByteArray} {xs : List JV} {cs : List Value} {vN vL : Value} (h : JSt w R M kk f ns xs cs vN vL W) (hR : R < w.heap.size) (hM : M < W.heap.size) (ha : Aw R W.heap.size W w3) {x : JV} {c0 c1 c2 c3 : Value}
    (hx : RdD w3 (fun b => W.heap.size ≤ b ∧ b < w3.heap.size) f x (.agg #[c0, c1, c2, c3])) : w3.cell? ⟨w.heap.size + 1, 3, none⟩ = some vL ∧ w3.cell? ⟨w.heap.size + 1, 2, none⟩ = some vN ∧ (∀ j, w3.frozen? ⟨w.heap.size + 1, j, none⟩ = false) ∧ ∀ W', Below w3.heap.size w3 W' → JSt w R M kk f ns xs cs vN vL W' ∧ RdD W' (JD w M W' vN vL) f x (.agg #[c0, c1, c2, c3]) := by
  have h3 := h.grow hR (Aw2.ofAw ha M)
  refine ⟨h3.b3, h3.b2, h3.bf, fun W' hb => ?_⟩
  have h4 := h3.grow hR (Aw2.ofAw (Aw.of hb) M)
  have hz := hb.size
  refine ⟨h4, RdD.step (fun b hd => ⟨Nat.le_trans h.sz hd.1, by omega, fun e => ?_, fun e => ?_, fun e => ?_⟩) (fun b o hd => World.cell?_of_block (a := ⟨b, o, none⟩) (hb.block b hd.2)) hx⟩
  · have := (h.oN.lt b e).2; omega
  · have := (h.oL.lt b e).2; omega
  · omega

theorem new_second (w : World) (o : Obj) (c0 c1 c2 c3 : Value) (T : TypeId) : ∀ j u, [c0, c1, c2, c3][j]? = some u → ((w.alloc o).alloc (.cells #[c0, c1, c2, c3] T)).cell? ((⟨w.heap.size + 1, 0, none⟩ : Addr).add j) = some u := by
  have := cell_four_new (w.alloc o) c0 c1 c2 c3 T
  rw [show (w.alloc o).heap.size = w.heap.size + 1 from by simp] at this
  exact this

/-- The list is at its end. -/
theorem list_end {w W : World} {R : Nat} {a : Option Addr} {cap : Nat} {ts : List Tk} {p0 : Nat} (h0 : Rv w R a cap ts p0) {kk : Int} {f : Nat} {ns : List ByteArray} {xs : List JV} {cs : List Value} {vN vL : Value} (hst : JSt w R R kk f ns xs cs vN vL W) {q : Nat} {l : List Sk} (hl : ahead ts q = l) (hr : Rv W R a cap ts q) (hx : xs.length ≤ 1000000) (hn : ns.length ≤ 1000000) (hz : ∀ m ∈ ns, m.size ≤ 1000000) :
    VIsV R a cap ts (f + 1) w (.mk kk ⟨#[]⟩ ns xs, l, 0) (.returned (.tuple #[.agg #[.int .i64 kk, .string ⟨#[]⟩, vN, vL], .int .i64 0])) ((((W.setCell ⟨w.heap.size, 0, none⟩ (.int .i64 kk)).setCell ⟨w.heap.size, 1, none⟩ (.string ⟨#[]⟩)).setCell ⟨w.heap.size, 2, none⟩ vN).setCell ⟨w.heap.size, 3, none⟩ vL) := by
  refine ⟨NowV.four h0 hl hr hst.aw _ _ _ _, ?_⟩
  rw [if_pos rfl]
  exact ⟨_, rfl, hst.doneB hx hn hz _ (fun b o hb => World.cell?_of_block (a := ⟨b, o, none⟩) (heap_four _ _ _ _ _ _ _ hb)) (size_four _ _ _ _ _ _)⟩

/-- It is none. -/
theorem list_none {w W : World} {R : Nat} {a : Option Addr} {cap : Nat} {ts : List Tk} {p0 : Nat} (h0 : Rv w R a cap ts p0) (n : Nat) {q : Nat} {l : List Sk} (hl : ahead ts q = l) (hr : Rv W R a cap ts q) (ha : Aw R w.heap.size w W) {er : Nat} (he : er ≠ 0) (h4 : er ≤ 4) (x : JV) (c0 c1 c2 c3 : Value) :
    VIsV R a cap ts n w (x, l, er) (.returned (.tuple #[leaf 0 ⟨#[]⟩, .int .i64 er])) ((((W.setCell ⟨w.heap.size, 0, none⟩ c0).setCell ⟨w.heap.size, 1, none⟩ c1).setCell ⟨w.heap.size, 2, none⟩ c2).setCell ⟨w.heap.size, 3, none⟩ c3) := by
  refine ⟨NowV.four h0 hl hr ha _ _ _ _, ?_⟩
  rw [if_neg he]
  exact ⟨rfl, h4⟩

theorem bx_four {W : World} {B : Nat} (h : Bx W B) (c0 c1 c2 c3 : Value) : ((((W.setCell ⟨B, 0, none⟩ c0).setCell ⟨B, 1, none⟩ c1).setCell ⟨B, 2, none⟩ c2).setCell ⟨B, 3, none⟩ c3).cell? ⟨B, 0, none⟩ = some c0 ∧ ((((W.setCell ⟨B, 0, none⟩ c0).setCell ⟨B, 1, none⟩ c1).setCell ⟨B, 2, none⟩ c2).setCell ⟨B, 3, none⟩ c3).cell? ⟨B, 1, none⟩ = some c1 ∧
    ((((W.setCell ⟨B, 0, none⟩ c0).setCell ⟨B, 1, none⟩ c1).setCell ⟨B, 2, none⟩ c2).setCell ⟨B, 3, none⟩ c3).cell? ⟨B, 2, none⟩ = some c2 ∧ ((((W.setCell ⟨B, 0, none⟩ c0).setCell ⟨B, 1, none⟩ c1).setCell ⟨B, 2, none⟩ c2).setCell ⟨B, 3, none⟩ c3).cell? ⟨B, 3, none⟩ = some c3 := by
  obtain ⟨r0, r1, r2, r3, _⟩ := h
  refine ⟨?_, ?_, ?_, ?_⟩ <;> simp [go_sem, r0, r1, r2, r3]
theorem bx_fourA {W : World} {B : Nat} (h : Bx W B) (c0 c1 c2 c3 : Value) (o : Obj) : (((((W.setCell ⟨B, 0, none⟩ c0).setCell ⟨B, 1, none⟩ c1).setCell ⟨B, 2, none⟩ c2).setCell ⟨B, 3, none⟩ c3).alloc o).cell? ⟨B, 0, none⟩ = some c0 ∧ (((((W.setCell ⟨B, 0, none⟩ c0).setCell ⟨B, 1, none⟩ c1).setCell ⟨B, 2, none⟩ c2).setCell ⟨B, 3, none⟩ c3).alloc o).cell? ⟨B, 1, none⟩ = some c1 ∧
    (((((W.setCell ⟨B, 0, none⟩ c0).setCell ⟨B, 1, none⟩ c1).setCell ⟨B, 2, none⟩ c2).setCell ⟨B, 3, none⟩ c3).alloc o).cell? ⟨B, 2, none⟩ = some c2 ∧ (((((W.setCell ⟨B, 0, none⟩ c0).setCell ⟨B, 1, none⟩ c1).setCell ⟨B, 2, none⟩ c2).setCell ⟨B, 3, none⟩ c3).alloc o).cell? ⟨B, 3, none⟩ = some c3 := by
  have hlt := h.lt
  obtain ⟨k0, k1, k2, k3⟩ := bx_four h c0 c1 c2 c3
  have c : ∀ j, (((((W.setCell ⟨B, 0, none⟩ c0).setCell ⟨B, 1, none⟩ c1).setCell ⟨B, 2, none⟩ c2).setCell ⟨B, 3, none⟩ c3).alloc o).cell? ⟨B, j, none⟩ = ((((W.setCell ⟨B, 0, none⟩ c0).setCell ⟨B, 1, none⟩ c1).setCell ⟨B, 2, none⟩ c2).setCell ⟨B, 3, none⟩ c3).cell? ⟨B, j, none⟩ := fun j => World.cell?_of_block (a := ⟨B, j, none⟩) (Below.heap_alloc _ _ _ (by rw [size_four]; exact hlt))
  exact ⟨(c 0).trans k0, (c 1).trans k1, (c 2).trans k2, (c 3).trans k3⟩
theorem NowV.alloc {R : Nat} {a : Option Addr} {cap : Nat} {ts : List Tk} {w W : World} {l : List Sk} (h : NowV R a cap ts w l W) (o : Obj) : NowV R a cap ts w l (W.alloc o) := by
  obtain ⟨p, hl, hr, ha⟩ := h
  exact ⟨p, hl, hr.alloc o, ha.alloc ha.size o⟩
theorem list_noneA {w W : World} {R : Nat} {a : Option Addr} {cap : Nat} {ts : List Tk} {p0 : Nat} (h0 : Rv w R a cap ts p0) (n : Nat) {q : Nat} {l : List Sk} (hl : ahead ts q = l) (hr : Rv W R a cap ts q) (ha : Aw R w.heap.size w W) {er : Nat} (he : er ≠ 0) (h4 : er ≤ 4) (x : JV) (c0 c1 c2 c3 : Value) (o : Obj) :
    VIsV R a cap ts n w (x, l, er) (.returned (.tuple #[leaf 0 ⟨#[]⟩, .int .i64 er])) (((((W.setCell ⟨w.heap.size, 0, none⟩ c0).setCell ⟨w.heap.size, 1, none⟩ c1).setCell ⟨w.heap.size, 2, none⟩ c2).setCell ⟨w.heap.size, 3, none⟩ c3).alloc o) := by
  refine ⟨(NowV.four h0 hl hr ha _ _ _ _).alloc o, ?_⟩
  rw [if_neg he]
  exact ⟨rfl, h4⟩

set_option maxHeartbeats 4000000 in
set_option maxRecDepth 100000 in
theorem vlist_any {R : Nat} {a : Option Addr} {cap : Nat} {ts : List Tk} {p : Nat} (f dep n : Nat) (w : World) (h : Rv w R a cap ts p) (hdep : dep ≤ 12) (hn : (ahead ts p).length < n) (ih : ValOkV R a cap ts f (dep + 1)) :
    Calls Tryz.prog 347 #[.pointer (some ⟨R, 0, none⟩), .int .i64 dep] w (VIsV R a cap ts (f + 2) w (vListGo (pvT f) n (ahead ts p) [])) := by
  obtain ⟨i2, hi2, hz20, hz21, hz22⟩ := info_parts infoVal
  have HI := Lib.hid ih
  have HH := Lib.hid h
  have hRlt := h.lt
  have hts := h.hs
  have hl9 : (ahead ts p).length ≤ 9000 := by rw [ahead_len]; omega
  clear ih
  have HR0 := Lib.hid ((h.alloc (.cells #[.int .i64 0, .string ⟨#[]⟩, .slice none 0 0, .slice none 0 0] 52)).alloc (.cells #[.int .i64 7, .string ⟨#[]⟩, .slice none 0 0, .slice none 0 0] 52))
  have HS0 := Lib.hid (jst_init w _ R R 7 (f + 1) hRlt (.inl rfl) (Aw.refl R (w.heap.size + 2) ((w.alloc (.cells #[.int .i64 0, .string ⟨#[]⟩, .slice none 0 0, .slice none 0 0] 52)).alloc (.cells #[.int .i64 7, .string ⟨#[]⟩, .slice none 0 0, .slice none 0 0] 52))))
  clear h
  go_enter Tryz.func347, Tryz.ntmps347
  go_wp2_with fail
  go_loopg [7, 8] n (fun k _ _ wr => LRelV w R a cap ts f (pvT f) (vListGo (pvT f) n (ahead ts p) []) k wr)
  case atStart => exact ⟨n, [], [], _, _, p, rfl, hn, by simpa using hl9, HR0.out, HS0.out, rfl⟩
  case round =>
    obtain ⟨j, xs, cs, vN, vL, q, rfl, hj, hxl, hr, hst, hres⟩ := hrel
    generalize vListGo (pvT f) n (ahead ts p) [] = RES at *
    clear HR0 HS0 hn hl9
    obtain ⟨k, rfl⟩ : ∃ k', j = k' + 1 := ⟨j - 1, by omega⟩
    have HRES := Lib.hid hres
    have HR := Lib.hid hr
    have hRr := hr.lt
    have HST := Lib.hid hst
    clear hres
    by_cases h93 : sg (hdK (ahead ts q)) 93 = true
    · have HT := takeSign_yes 93 wr hr h93
      have HU := Lib.hid (show RES = (.mk 7 ⟨#[]⟩ [] xs, (ahead ts q).tail, 0) by rw [← HRES.out]; unfold vListGo; rw [if_pos h93])
      clear h93 hr hst
      go_wp2_with fail
      refine HT.mono ?_
      rintro e w2 ⟨rfl, q2, hl2, hr2, ha2⟩
      have hst2 := HST.out.grow hRlt (Aw2.ofAw ha2 R)
      have HST2 := Lib.hid hst2
      have HL2 := Lib.hid hl2
      have hcl := hst2.oL
      obtain ⟨aL, cL, rfl, _, _⟩ := fresh_row hst2.oL
      obtain ⟨aN, cN, rfl, _, _⟩ := fresh_row hst2.oN
      obtain ⟨_, hsz, b0, b1, b2, b3, bf, ⟨r0, r1, r2, r3, rf⟩, _⟩ := hst2
      clear hl2 hcl
      go_wp2_with fail
      refine bodyPost_ret (v := .tuple #[.agg #[.int .i64 7, .string ⟨#[]⟩, .slice aN 0 cN, .slice aL xs.length cL], .int .i64 0]) (by simp [results, Tryz.results347, go_sem, r0, r1, r2, r3]) rfl ?_
      rw [HU.out]
      exact list_end HH.out HST2.out HL2.out hr2 (by omega) (by simp) (by simp)
    · have h93 : sg (hdK (ahead ts q)) 93 = false := by simpa using h93
      have HT := takeSign_no 93 wr hr h93
      have HV := Lib.hid (show RES = if (pvT f (ahead ts q)).2.2 = 0 then vListGo (pvT f) k (pvT f (ahead ts q)).2.1 (xs ++ [(pvT f (ahead ts q)).1]) else (vz, (pvT f (ahead ts q)).2.1, (pvT f (ahead ts q)).2.2) by rw [← HRES.out, vListGo, if_neg (by rw [h93]; decide)])
      have hless := pvT_less f (ahead ts q)
      have hC := HI.out q
      generalize pvT f (ahead ts q) = RV at *
      obtain ⟨x, l', er⟩ := RV
      have hwrap : IntKind.i64.wrap ((dep : Int) + 1) = (dep : Int) + 1 := IntWalk.i64_in _ (by omega)
      rw [show ((dep + 1 : Nat) : Int) = (dep : Int) + 1 by omega] at hC
      have HC := Lib.hid hC
      clear h93 hr hst hC HI
      go_wp2_with fail
      refine HT.mono ?_
      rintro e w2 ⟨rfl, hb2⟩
      have hr2 := HR.out.below hb2
      have hst2 := HST.out.grow hRlt (Aw2.ofAw (Aw.of hb2) R)
      have HC2 := HC.out w2 hr2
      have HST2 := Lib.hid hst2
      have hRr2 := hr2.lt
      clear hr2 HC hst2 hb2
      go_wp2_with fail
      refine HC2.mono ?_
      rintro e w3 ⟨⟨q3, hl3, hr3, ha3⟩, hv⟩
      dsimp only at hl3 hv hless HV
      by_cases he : er = 0
      · subst he
        rw [if_pos rfl] at hv
        obtain ⟨v, rfl, hR⟩ := hv
        obtain ⟨an, cn, ap, cp, rfl⟩ := hR.shape
        have HN := Lib.hid (show RES = vListGo (pvT f) k l' (xs ++ [x]) by rw [HV.out, if_pos rfl])
        have hlt := hless rfl
        obtain ⟨b33, _, bf3, hW⟩ := list_armG HST2.out hRlt hRr2 ha3 hR
        have hlt3 : w.heap.size + 1 < w3.heap.size := by have h1 := ha3.size; have := HST2.out.sz; omega
        obtain ⟨aL, cL, rfl, hcL, _⟩ := fresh_row HST2.out.oL
        obtain ⟨aN, cN, rfl, hcN, _⟩ := fresh_row HST2.out.oN
        have hb5 : Below w3.heap.size w3 ((w3.alloc (.cells #[.int .i64 x.k, .string x.s, .slice an x.ns.length cn, .slice ap x.ps.length cp] 52)).alloc (.cells #[.int .i64 x.k, .string x.s, .slice an x.ns.length cn, .slice ap x.ps.length cp] 52)) := ((Below.refl _ w3).alloc (Nat.le_refl _) _).alloc (by simp) _
        obtain ⟨hA, hX⟩ := hW _ hb5
        have HA := Lib.hid hA
        have HX := Lib.hid hX
        have HC4 := Lib.hid (new_second w3 (.cells #[.int .i64 x.k, .string x.s, .slice an x.ns.length cn, .slice ap x.ps.length cp] 52) (.int .i64 x.k) (.string x.s) (.slice an x.ns.length cn) (.slice ap x.ps.length cp) 52)
        have HO4 := Lib.hid (four_one x.k x.s an x.ns.length cn ap x.ps.length cp)
        have HZ4 := Lib.hid hA.sz
        have HS4 : Hid (((w3.alloc (.cells #[.int .i64 x.k, .string x.s, .slice an x.ns.length cn, .slice ap x.ps.length cp] 52)).alloc (.cells #[.int .i64 x.k, .string x.s, .slice an x.ns.length cn, .slice ap x.ps.length cp] 52)).heap.size = w3.heap.size + 2) := Lib.hid (by simp)
        have HL3 := Lib.hid hl3
        have HR3 := Lib.hid (hr3.below hb5)
        clear hl3 hr3 ha3 hR hW hA hX hb5 HV HC2
        go_wp2_with (at_builtin; refine wpList_append_lies _ rfl _ _ 50 rfl (w.heap.size + 2) 52 i2 (.agg #[.int .i64 0, .string ⟨#[]⟩, .slice none 0 0, .slice none 0 0]) 4 72 Tryz.underlying50 hi2 hz20 hz21 hz22 rfl (by decide) (.slice aL xs.length cL) xs.length cs rfl HA.out.oL ⟨w3.heap.size + 1, 0, none⟩ 1 1 [.int .i64 x.k, .string x.s, .slice an x.ns.length cn, .slice ap x.ps.length cp] rfl rfl HC4.out HO4.out (by decide) (by unfold maxLen; omega) (by omega) HZ4.out (w3.heap.size + 2) HS4.out ?_)
        intro g8 cap8 w8 hown8 hg8 hlie8 hl8
        obtain ⟨c8, f8⟩ := HA.out.boxL hg8
        have e8 := (c8 3).trans HA.out.b3
        have hm8 := HA.out.list HX.out hown8 hg8 (by
          rcases hlie8 with e | e
          · exact .inl e.symm
          · exact .inr (by rw [HS4.out, e]; rfl)) (by rw [HS4.out]; omega)
        have hr8 : Rv (w8.setCell ⟨w.heap.size + 1, 3, none⟩ (.slice (some ⟨g8, 0, none⟩) (xs.length + 1) cap8)) R a cap ts q3 := by
          have hgo : ∀ b, b < w.heap.size → w8.heap[b]? = ((w3.alloc (.cells #[.int .i64 x.k, .string x.s, .slice an x.ns.length cn, .slice ap x.ps.length cp] 52)).alloc (.cells #[.int .i64 x.k, .string x.s, .slice an x.ns.length cn, .slice ap x.ps.length cp] 52)).heap[b]? := fun b hb => hg8.block b (by rw [HS4.out]; omega) (fun e => by
            have := (HA.out.oL.lt b (by first | exact e | exact e.symm)).1
            omega)
          refine HR3.out.keepT ?_ (fun g o e h0 => ?_)
          · rw [Below.heap_setCell _ _ _ _ (show R ≠ w.heap.size + 1 by omega)]
            exact hgo R hRlt
          · have hg := HH.out.tokLt g o e h0
            rw [Below.heap_setCell _ _ _ _ (show g ≠ w.heap.size + 1 by omega)]
            exact hgo g hg
        have HM8 := Lib.hid hm8
        have HR8 := Lib.hid hr8
        clear hm8 hr8 c8 hg8 hown8 hlie8 HC4 HO4 HZ4 HS4 HX HA
        go_wp2_with fail
        go_roundg k
        case measure => omega
        case rel => exact ⟨k, xs ++ [x], _, _, _, q3, rfl, by rw [HL3.out]; omega, by rw [HL3.out, List.length_append, List.length_singleton]; omega, HR8.out, HM8.out, by rw [HL3.out]; exact HN.out.symm⟩
      · rw [if_neg he] at hv
        obtain ⟨rfl, h4⟩ := hv
        have HN := Lib.hid (show RES = (vz, l', er) by rw [HV.out, if_neg he])
        have hst3 := HST2.out.grow hRlt (Aw2.ofAw ha3 R)
        have hne : ((er : Int) == 0) = false := by rw [beq_eq_false_iff_ne]; omega
        have HL3 := Lib.hid hl3
        have HE := Lib.hid he
        have HR3 := Lib.hid hr3
        have HA3 := Lib.hid hst3.aw
        have hlt3 : w.heap.size < w3.heap.size := by have := hst3.sz; omega
        have HF := Lib.hid (fun o => bx_fourA hst3.bx (.int .i64 0) (.string ⟨#[]⟩) (.slice none 0 0) (.slice none 0 0) o)
        obtain ⟨r0, r1, r2, r3, rf⟩ := hst3.bx
        clear hl3 hr3 ha3 HV HC2 hst3 he
        unfold leaf
        go_wp2_with fail
        obtain ⟨k0, k1, k2, k3⟩ := HF.out (.cells #[.int .i64 0, .string ⟨#[]⟩, .slice none 0 0, .slice none 0 0] 52)
        refine bodyPost_ret (v := .tuple #[leaf 0 ⟨#[]⟩, .int .i64 er]) (by simp [results, Tryz.results347, go_sem, k0, k1, k2, k3, leaf]) rfl ?_
        rw [HN.out]
        exact list_noneA HH.out _ HL3.out HR3.out HA3.out HE.out h4 _ _ _ _ _ _

end Go.Proofs.YtkahnlgedacppaaGreatDoor
