/-
  value's reader: what list answers.
-/
import Derived.Test.YtibkncgfdhflgaaGreatDoorMV3
namespace Go.Proofs.YtibkncgfdhflgaaGreatDoor
open Go.RowKit

/-- The contract of value that list and object are given. -/
def ValOkV (R : Nat) (a : Option Addr) (cap : Nat) (ts : List Tk) (f dep : Nat) : Prop :=
  ∀ (p : Nat) (W : World), Rv W R a cap ts p → Calls Tryz.prog 194 #[.pointer (some ⟨R, 0, none⟩), .int .i64 dep] W (VIsV R a cap ts (f + 1) W (pvT f (ahead ts p)))

/-- One more of the list is to be read; what comes of it all is RES. -/
def LRelV (w : World) (R : Nat) (a : Option Addr) (cap : Nat) (ts : List Tk) (f : Nat) (V : List Sk → VR) (RES : VR) (k : Nat) (wr : World) : Prop :=
  ∃ (j : Nat) (xs : List JV) (cs : List Value) (vN vL : Value) (q : Nat), j = k ∧ (ahead ts q).length < j ∧ xs.length + (ahead ts q).length ≤ 9000 ∧ Rv wr R a cap ts q ∧ JSt w R R 7 (f + 1) [] xs cs vN vL wr ∧ vListGo V j (ahead ts q) xs = RES

theorem list_armG {w W w3 : World} {R M : Nat} {kk : Int} {f : Nat} {ns : List ByteArray} {xs : List JV} {cs : List Value} {vN vL : Value} (h : JSt w R M kk f ns xs cs vN vL W) (hR : R < w.heap.size) (hM : M < W.heap.size) (ha : Aw R W.heap.size W w3) {x : JV} {c0 c1 c2 c3 : Value}
    (hx : RdD w3 (fun b => W.heap.size ≤ b ∧ b < w3.heap.size) f x (.agg #[c0, c1, c2, c3])) : w3.cell? ⟨w.heap.size + 1, 3, none⟩ = some vL ∧ w3.cell? ⟨w.heap.size + 1, 2, none⟩ = some vN ∧ (∀ j, w3.frozen? ⟨w.heap.size + 1, j, none⟩ = false) ∧ ∀ W', Below w3.heap.size w3 W' → JSt w R M kk f ns xs cs vN vL W' ∧ RdD W' (JD w M W' vN vL) f x (.agg #[c0, c1, c2, c3]) := by
  have h3 := h.grow hR (Aw2.ofAw ha M)
  refine ⟨h3.b3, h3.b2, h3.bf, fun W' hb => ?_⟩
  have h4 := h3.grow hR (Aw2.ofAw (Aw.of hb) M)
  have hz := hb.size
  refine ⟨h4, RdD.step (fun b hd => ⟨Nat.le_trans h.sz hd.1, by omega, fun e => ?_, fun e => ?_, fun e => ?_⟩) (fun b o hd => World.cell?_of_block (a := ⟨b, o, none⟩) (hb.block b hd.2)) hx⟩
  · have := (h.oN.lt b e).2; omega
  · have := (h.oL.lt b e).2; omega
  · omega

theorem new_second (w : World) (o : Obj) (c0 c1 c2 c3 : Value) (T : TypeId) : ∀ j u, [c0, c1, c2, c3][j]? = some u → ((w.alloc o).alloc (.cells #[c0, c1, c2, c3] T)).cell? ((⟨w.heap.size + 1, 0, none⟩ : Addr).add j) = some u := by
  have := cell_four_new (w.alloc o) c0 c1 c2 c3 T
  rw [show (w.alloc o).heap.size = w.heap.size + 1 from by simp] at this
  exact this

/-- The list is at its end. -/
theorem list_end {w W : World} {R : Nat} {a : Option Addr} {cap : Nat} {ts : List Tk} {p0 : Nat} (h0 : Rv w R a cap ts p0) {kk : Int} {f : Nat} {ns : List ByteArray} {xs : List JV} {cs : List Value} {vN vL : Value} (hst : JSt w R R kk f ns xs cs vN vL W) {q : Nat} {l : List Sk} (hl : ahead ts q = l) (hr : Rv W R a cap ts q) (hx : xs.length ≤ 1000000) (hn : ns.length ≤ 1000000) (hz : ∀ m ∈ ns, m.size ≤ 1000000) :
    VIsV R a cap ts (f + 1) w (.mk kk ⟨#[]⟩ ns xs, l, 0) (.returned (.tuple #[.agg #[.int .i64 kk, .string ⟨#[]⟩, vN, vL], .int .i64 0])) ((((W.setCell ⟨w.heap.size, 0, none⟩ (.int .i64 kk)).setCell ⟨w.heap.size, 1, none⟩ (.string ⟨#[]⟩)).setCell ⟨w.heap.size, 2, none⟩ vN).setCell ⟨w.heap.size, 3, none⟩ vL) := by
  refine ⟨NowV.four h0 hl hr hst.aw _ _ _ _, ?_⟩
  rw [if_pos rfl]
  exact ⟨_, rfl, hst.doneB hx hn hz _ (fun b o hb => World.cell?_of_block (a := ⟨b, o, none⟩) (heap_four _ _ _ _ _ _ _ hb)) (size_four _ _ _ _ _ _)⟩

/-- It is none. -/
theorem list_none {w W : World} {R : Nat} {a : Option Addr} {cap : Nat} {ts : List Tk} {p0 : Nat} (h0 : Rv w R a cap ts p0) (n : Nat) {q : Nat} {l : List Sk} (hl : ahead ts q = l) (hr : Rv W R a cap ts q) (ha : Aw R w.heap.size w W) {er : Nat} (he : er ≠ 0) (h4 : er ≤ 4) (x : JV) (c0 c1 c2 c3 : Value) :
    VIsV R a cap ts n w (x, l, er) (.returned (.tuple #[leaf 0 ⟨#[]⟩, .int .i64 er])) ((((W.setCell ⟨w.heap.size, 0, none⟩ c0).setCell ⟨w.heap.size, 1, none⟩ c1).setCell ⟨w.heap.size, 2, none⟩ c2).setCell ⟨w.heap.size, 3, none⟩ c3) := by
  refine ⟨NowV.four h0 hl hr ha _ _ _ _, ?_⟩
  rw [if_neg he]
  exact ⟨rfl, h4⟩

theorem bx_four {W : World} {B : Nat} (h : Bx W B) (c0 c1 c2 c3 : Value) : ((((W.setCell ⟨B, 0, none⟩ c0).setCell ⟨B, 1, none⟩ c1).setCell ⟨B, 2, none⟩ c2).setCell ⟨B, 3, none⟩ c3).cell? ⟨B, 0, none⟩ = some c0 ∧ ((((W.setCell ⟨B, 0, none⟩ c0).setCell ⟨B, 1, none⟩ c1).setCell ⟨B, 2, none⟩ c2).setCell ⟨B, 3, none⟩ c3).cell? ⟨B, 1, none⟩ = some c1 ∧
    ((((W.setCell ⟨B, 0, none⟩ c0).setCell ⟨B, 1, none⟩ c1).setCell ⟨B, 2, none⟩ c2).setCell ⟨B, 3, none⟩ c3).cell? ⟨B, 2, none⟩ = some c2 ∧ ((((W.setCell ⟨B, 0, none⟩ c0).setCell ⟨B, 1, none⟩ c1).setCell ⟨B, 2, none⟩ c2).setCell ⟨B, 3, none⟩ c3).cell? ⟨B, 3, none⟩ = some c3 := by
  obtain ⟨r0, r1, r2, r3, _⟩ := h
  refine ⟨?_, ?_, ?_, ?_⟩ <;> simp [go_sem, r0, r1, r2, r3]
theorem bx_fourA {W : World} {B : Nat} (h : Bx W B) (c0 c1 c2 c3 : Value) (o : Obj) : (((((W.setCell ⟨B, 0, none⟩ c0).setCell ⟨B, 1, none⟩ c1).setCell ⟨B, 2, none⟩ c2).setCell ⟨B, 3, none⟩ c3).alloc o).cell? ⟨B, 0, none⟩ = some c0 ∧ (((((W.setCell ⟨B, 0, none⟩ c0).setCell ⟨B, 1, none⟩ c1).setCell ⟨B, 2, none⟩ c2).setCell ⟨B, 3, none⟩ c3).alloc o).cell? ⟨B, 1, none⟩ = some c1 ∧
    (((((W.setCell ⟨B, 0, none⟩ c0).setCell ⟨B, 1, none⟩ c1).setCell ⟨B, 2, none⟩ c2).setCell ⟨B, 3, none⟩ c3).alloc o).cell? ⟨B, 2, none⟩ = some c2 ∧ (((((W.setCell ⟨B, 0, none⟩ c0).setCell ⟨B, 1, none⟩ c1).setCell ⟨B, 2, none⟩ c2).setCell ⟨B, 3, none⟩ c3).alloc o).cell? ⟨B, 3, none⟩ = some c3 := by
  have hlt := h.lt
  obtain ⟨k0, k1, k2, k3⟩ := bx_four h c0 c1 c2 c3
  have c : ∀ j, (((((W.setCell ⟨B, 0, none⟩ c0).setCell ⟨B, 1, none⟩ c1).setCell ⟨B, 2, none⟩ c2).setCell ⟨B, 3, none⟩ c3).alloc o).cell? ⟨B, j, none⟩ = ((((W.setCell ⟨B, 0, none⟩ c0).setCell ⟨B, 1, none⟩ c1).setCell ⟨B, 2, none⟩ c2).setCell ⟨B, 3, none⟩ c3).cell? ⟨B, j, none⟩ := fun j => World.cell?_of_block (a := ⟨B, j, none⟩) (Below.heap_alloc _ _ _ (by rw [size_four]; exact hlt))
  exact ⟨(c 0).trans k0, (c 1).trans k1, (c 2).trans k2, (c 3).trans k3⟩
theorem NowV.alloc {R : Nat} {a : Option Addr} {cap : Nat} {ts : List Tk} {w W : World} {l : List Sk} (h : NowV R a cap ts w l W) (o : Obj) : NowV R a cap ts w l (W.alloc o) := by
  obtain ⟨p, hl, hr, ha⟩ := h
  exact ⟨p, hl, hr.alloc o, ha.alloc ha.size o⟩
theorem list_noneA {w W : World} {R : Nat} {a : Option Addr} {cap : Nat} {ts : List Tk} {p0 : Nat} (h0 : Rv w R a cap ts p0) (n : Nat) {q : Nat} {l : List Sk} (hl : ahead ts q = l) (hr : Rv W R a cap ts q) (ha : Aw R w.heap.size w W) {er : Nat} (he : er ≠ 0) (h4 : er ≤ 4) (x : JV) (c0 c1 c2 c3 : Value) (o : Obj) :
    VIsV R a cap ts n w (x, l, er) (.returned (.tuple #[leaf 0 ⟨#[]⟩, .int .i64 er])) (((((W.setCell ⟨w.heap.size, 0, none⟩ c0).setCell ⟨w.heap.size, 1, none⟩ c1).setCell ⟨w.heap.size, 2, none⟩ c2).setCell ⟨w.heap.size, 3, none⟩ c3).alloc o) := by
  refine ⟨(NowV.four h0 hl hr ha _ _ _ _).alloc o, ?_⟩
  rw [if_neg he]
  exact ⟨rfl, h4⟩

set_option maxHeartbeats 4000000 in
set_option maxRecDepth 100000 in
theorem vlist_any {R : Nat} {a : Option Addr} {cap : Nat} {ts : List Tk} {p : Nat} (f dep n : Nat) (w : World) (h : Rv w R a cap ts p) (hdep : dep ≤ 12) (hn : (ahead ts p).length < n) (ih : ValOkV R a cap ts f (dep + 1)) :
    Calls Tryz.prog 200 #[.pointer (some ⟨R, 0, none⟩), .int .i64 dep] w (VIsV R a cap ts (f + 2) w (vListGo (pvT f) n (ahead ts p) [])) := by
  obtain ⟨i2, hi2, hz20, hz21, hz22⟩ := info_parts infoVal
  have HI := Lib.hid ih
  have HH := Lib.hid h
  have hRlt := h.lt
  have hts := h.hs
  have hl9 : (ahead ts p).length ≤ 9000 := by rw [ahead_len]; omega
  clear ih
  have HR0 := Lib.hid ((h.alloc (.cells #[.int .i64 0, .string ⟨#[]⟩, .slice none 0 0, .slice none 0 0] 45)).alloc (.cells #[.int .i64 7, .string ⟨#[]⟩, .slice none 0 0, .slice none 0 0] 45))
  have HS0 := Lib.hid (jst_init w _ R R 7 (f + 1) hRlt (.inl rfl) (Aw.refl R (w.heap.size + 2) ((w.alloc (.cells #[.int .i64 0, .string ⟨#[]⟩, .slice none 0 0, .slice none 0 0] 45)).alloc (.cells #[.int .i64 7, .string ⟨#[]⟩, .slice none 0 0, .slice none 0 0] 45))))
  clear h
  go_enter Tryz.func200, Tryz.ntmps200
  go_wp2_with fail
  go_loopg [7, 8] n (fun k _ _ wr => LRelV w R a cap ts f (pvT f) (vListGo (pvT f) n (ahead ts p) []) k wr)
  case atStart => exact ⟨n, [], [], _, _, p, rfl, hn, by simpa using hl9, HR0.out, HS0.out, rfl⟩
  case round =>
    obtain ⟨j, xs, cs, vN, vL, q, rfl, hj, hxl, hr, hst, hres⟩ := hrel
    generalize vListGo (pvT f) n (ahead ts p) [] = RES at *
    clear HR0 HS0 hn hl9
    obtain ⟨k, rfl⟩ : ∃ k', j = k' + 1 := ⟨j - 1, by omega⟩
    have HRES := Lib.hid hres
    have HR := Lib.hid hr
    have hRr := hr.lt
    have HST := Lib.hid hst
    clear hres
    by_cases h93 : sg (hdK (ahead ts q)) 93 = true
    · have HT := takeSign_yes 93 wr hr h93
      have HU := Lib.hid (show RES = (.mk 7 ⟨#[]⟩ [] xs, (ahead ts q).tail, 0) by rw [← HRES.out]; unfold vListGo; rw [if_pos h93])
      clear h93 hr hst
      go_wp2_with fail
      refine HT.mono ?_
      rintro e w2 ⟨rfl, q2, hl2, hr2, ha2⟩
      have hst2 := HST.out.grow hRlt (Aw2.ofAw ha2 R)
      have HST2 := Lib.hid hst2
      have HL2 := Lib.hid hl2
      have hcl := hst2.oL
      obtain ⟨aL, cL, rfl, _, _⟩ := fresh_row hst2.oL
      obtain ⟨aN, cN, rfl, _, _⟩ := fresh_row hst2.oN
      obtain ⟨_, hsz, b0, b1, b2, b3, bf, ⟨r0, r1, r2, r3, rf⟩, _⟩ := hst2
      clear hl2 hcl
      go_wp2_with fail
      refine bodyPost_ret (v := .tuple #[.agg #[.int .i64 7, .string ⟨#[]⟩, .slice aN 0 cN, .slice aL xs.length cL], .int .i64 0]) (by simp [results, Tryz.results200, go_sem, r0, r1, r2, r3]) rfl ?_
      rw [HU.out]
      exact list_end HH.out HST2.out HL2.out hr2 (by omega) (by simp) (by simp)
    · have h93 : sg (hdK (ahead ts q)) 93 = false := by simpa using h93
      have HT := takeSign_no 93 wr hr h93
      have HV := Lib.hid (show RES = if (pvT f (ahead ts q)).2.2 = 0 then vListGo (pvT f) k (pvT f (ahead ts q)).2.1 (xs ++ [(pvT f (ahead ts q)).1]) else (vz, (pvT f (ahead ts q)).2.1, (pvT f (ahead ts q)).2.2) by rw [← HRES.out, vListGo, if_neg (by rw [h93]; decide)])
      have hless := pvT_less f (ahead ts q)
      have hC := HI.out q
      generalize pvT f (ahead ts q) = RV at *
      obtain ⟨x, l', er⟩ := RV
      have hwrap : IntKind.i64.wrap ((dep : Int) + 1) = (dep : Int) + 1 := IntWalk.i64_in _ (by omega)
      rw [show ((dep + 1 : Nat) : Int) = (dep : Int) + 1 by omega] at hC
      have HC := Lib.hid hC
      clear h93 hr hst hC HI
      go_wp2_with fail
      refine HT.mono ?_
      rintro e w2 ⟨rfl, hb2⟩
      have hr2 := HR.out.below hb2
      have hst2 := HST.out.grow hRlt (Aw2.ofAw (Aw.of hb2) R)
      have HC2 := HC.out w2 hr2
      have HST2 := Lib.hid hst2
      have hRr2 := hr2.lt
      clear hr2 HC hst2 hb2
      go_wp2_with fail
      refine HC2.mono ?_
      rintro e w3 ⟨⟨q3, hl3, hr3, ha3⟩, hv⟩
      dsimp only at hl3 hv hless HV
      by_cases he : er = 0
      · subst he
        rw [if_pos rfl] at hv
        obtain ⟨v, rfl, hR⟩ := hv
        obtain ⟨an, cn, ap, cp, rfl⟩ := hR.shape
        have HN := Lib.hid (show RES = vListGo (pvT f) k l' (xs ++ [x]) by rw [HV.out, if_pos rfl])
        have hlt := hless rfl
        obtain ⟨b33, _, bf3, hW⟩ := list_armG HST2.out hRlt hRr2 ha3 hR
        have hlt3 : w.heap.size + 1 < w3.heap.size := by have h1 := ha3.size; have := HST2.out.sz; omega
        obtain ⟨aL, cL, rfl, hcL, _⟩ := fresh_row HST2.out.oL
        obtain ⟨aN, cN, rfl, hcN, _⟩ := fresh_row HST2.out.oN
        have hb5 : Below w3.heap.size w3 ((w3.alloc (.cells #[.int .i64 x.k, .string x.s, .slice an x.ns.length cn, .slice ap x.ps.length cp] 45)).alloc (.cells #[.int .i64 x.k, .string x.s, .slice an x.ns.length cn, .slice ap x.ps.length cp] 45)) := ((Below.refl _ w3).alloc (Nat.le_refl _) _).alloc (by simp) _
        obtain ⟨hA, hX⟩ := hW _ hb5
        have HA := Lib.hid hA
        have HX := Lib.hid hX
        have HC4 := Lib.hid (new_second w3 (.cells #[.int .i64 x.k, .string x.s, .slice an x.ns.length cn, .slice ap x.ps.length cp] 45) (.int .i64 x.k) (.string x.s) (.slice an x.ns.length cn) (.slice ap x.ps.length cp) 45)
        have HO4 := Lib.hid (four_one x.k x.s an x.ns.length cn ap x.ps.length cp)
        have HZ4 := Lib.hid hA.sz
        have HS4 : Hid (((w3.alloc (.cells #[.int .i64 x.k, .string x.s, .slice an x.ns.length cn, .slice ap x.ps.length cp] 45)).alloc (.cells #[.int .i64 x.k, .string x.s, .slice an x.ns.length cn, .slice ap x.ps.length cp] 45)).heap.size = w3.heap.size + 2) := Lib.hid (by simp)
        have HL3 := Lib.hid hl3
        have HR3 := Lib.hid (hr3.below hb5)
        clear hl3 hr3 ha3 hR hW hA hX hb5 HV HC2
        go_wp2_with (at_builtin; refine wpList_append_lies _ rfl _ _ 43 rfl (w.heap.size + 2) 45 i2 (.agg #[.int .i64 0, .string ⟨#[]⟩, .slice none 0 0, .slice none 0 0]) 4 72 Tryz.underlying43 hi2 hz20 hz21 hz22 rfl (by decide) (.slice aL xs.length cL) xs.length cs rfl HA.out.oL ⟨w3.heap.size + 1, 0, none⟩ 1 1 [.int .i64 x.k, .string x.s, .slice an x.ns.length cn, .slice ap x.ps.length cp] rfl rfl HC4.out HO4.out (by decide) (by unfold maxLen; omega) (by omega) HZ4.out (w3.heap.size + 2) HS4.out ?_)
        intro g8 cap8 w8 hown8 hg8 hlie8 hl8
        obtain ⟨c8, f8⟩ := HA.out.boxL hg8
        have e8 := (c8 3).trans HA.out.b3
        have hm8 := HA.out.list HX.out hown8 hg8 (by
          rcases hlie8 with e | e
          · exact .inl e.symm
          · exact .inr (by rw [HS4.out, e]; rfl)) (by rw [HS4.out]; omega)
        have hr8 : Rv (w8.setCell ⟨w.heap.size + 1, 3, none⟩ (.slice (some ⟨g8, 0, none⟩) (xs.length + 1) cap8)) R a cap ts q3 := by
          have hgo : ∀ b, b < w.heap.size → w8.heap[b]? = ((w3.alloc (.cells #[.int .i64 x.k, .string x.s, .slice an x.ns.length cn, .slice ap x.ps.length cp] 45)).alloc (.cells #[.int .i64 x.k, .string x.s, .slice an x.ns.length cn, .slice ap x.ps.length cp] 45)).heap[b]? := fun b hb => hg8.block b (by rw [HS4.out]; omega) (fun e => by
            have := (HA.out.oL.lt b (by first | exact e | exact e.symm)).1
            omega)
          refine HR3.out.keepT ?_ (fun g e h0 => ?_)
          · rw [Below.heap_setCell _ _ _ _ (show R ≠ w.heap.size + 1 by omega)]
            exact hgo R hRlt
          · have hg := HH.out.tokLt g e h0
            rw [Below.heap_setCell _ _ _ _ (show g ≠ w.heap.size + 1 by omega)]
            exact hgo g hg
        have HM8 := Lib.hid hm8
        have HR8 := Lib.hid hr8
        clear hm8 hr8 c8 hg8 hown8 hlie8 HC4 HO4 HZ4 HS4 HX HA
        go_wp2_with fail
        go_roundg k
        case measure => omega
        case rel => exact ⟨k, xs ++ [x], _, _, _, q3, rfl, by rw [HL3.out]; omega, by rw [HL3.out, List.length_append, List.length_singleton]; omega, HR8.out, HM8.out, by rw [HL3.out]; exact HN.out.symm⟩
      · rw [if_neg he] at hv
        obtain ⟨rfl, h4⟩ := hv
        have HN := Lib.hid (show RES = (vz, l', er) by rw [HV.out, if_neg he])
        have hst3 := HST2.out.grow hRlt (Aw2.ofAw ha3 R)
        have hne : ((er : Int) == 0) = false := by rw [beq_eq_false_iff_ne]; omega
        have HL3 := Lib.hid hl3
        have HE := Lib.hid he
        have HR3 := Lib.hid hr3
        have HA3 := Lib.hid hst3.aw
        have hlt3 : w.heap.size < w3.heap.size := by have := hst3.sz; omega
        have HF := Lib.hid (fun o => bx_fourA hst3.bx (.int .i64 0) (.string ⟨#[]⟩) (.slice none 0 0) (.slice none 0 0) o)
        obtain ⟨r0, r1, r2, r3, rf⟩ := hst3.bx
        clear hl3 hr3 ha3 HV HC2 hst3 he
        unfold leaf
        go_wp2_with fail
        obtain ⟨k0, k1, k2, k3⟩ := HF.out (.cells #[.int .i64 0, .string ⟨#[]⟩, .slice none 0 0, .slice none 0 0] 45)
        refine bodyPost_ret (v := .tuple #[leaf 0 ⟨#[]⟩, .int .i64 er]) (by simp [results, Tryz.results200, go_sem, k0, k1, k2, k3, leaf]) rfl ?_
        rw [HN.out]
        exact list_noneA HH.out _ HL3.out HR3.out HA3.out HE.out h4 _ _ _ _ _ _

end Go.Proofs.YtibkncgfdhflgaaGreatDoor

/-
  value's reader: what object answers.
-/
namespace Go.Proofs.YtibkncgfdhflgaaGreatDoor
open Go.RowKit

/-- One more of the object is to be read; what comes of it all is RES. -/
def ORelV (w : World) (R : Nat) (a : Option Addr) (cap : Nat) (ts : List Tk) (f : Nat) (V : List Sk → VR) (RES : VR) (k : Nat) (wr : World) : Prop :=
  ∃ (j : Nat) (ns : List ByteArray) (xs : List JV) (cs : List Value) (vN vL : Value) (q : Nat), j = k ∧ (ahead ts q).length < j ∧ xs.length + (ahead ts q).length ≤ 9000 ∧ Hid (ns.length = xs.length) ∧ (∀ m ∈ ns, m.size ≤ 1000000) ∧ Rv wr R a cap ts q ∧ JSt w R R 8 (f + 1) ns xs cs vN vL wr ∧ vObjGo V j (ahead ts q) ns xs = RES

theorem cell_second (w : World) (o : Obj) (c : Value) (T : TypeId) : ∀ j u, [c][j]? = some u → ((w.alloc o).alloc (.cells #[c] T)).cell? ((⟨w.heap.size + 1, 0, none⟩ : Addr).add j) = some u := by
  intro j u hj
  rw [Go.WideShapes.add_plain, Nat.zero_add]
  have hb : ((w.alloc o).alloc (.cells #[c] T)).heap[w.heap.size + 1]? = some (.cells #[c] T (0, 0)) := by
    have := heap_alloc_new (w.alloc o) (.cells #[c] T)
    rw [show (w.alloc o).heap.size = w.heap.size + 1 from by simp] at this
    exact this
  rw [Lib.cell_of_heap hb j]
  rw [← hj, ← Array.getElem?_toList]
theorem cell_third (w : World) (c0 c1 c2 c3 : Value) (T : TypeId) : ∀ j u, [c0, c1, c2, c3][j]? = some u → (w.alloc (.cells #[c0, c1, c2, c3] T)).cell? ((⟨w.heap.size, 0, none⟩ : Addr).add j) = some u := cell_four_new w c0 c1 c2 c3 T

/-- A value that was read is there behind the store of the name. -/
theorem name_rd {w W W' : World} {M : Nat} {vN vL vN' : Value} (hg : W.grownBy W' vN.ownBlock)
    (hlie : vN'.ownBlock = vN.ownBlock ∨ vN'.ownBlock = some W.heap.size) {d : Nat} {x : JV} {v : Value} (hx : RdD W (JD w M W vN vL) d x v) :
    RdD (W'.setCell ⟨w.heap.size + 1, 2, none⟩ vN') (JD w M (W'.setCell ⟨w.heap.size + 1, 2, none⟩ vN') vN' vL) d x v := by
  have hz := hg.size
  have hsz : (W'.setCell ⟨w.heap.size + 1, 2, none⟩ vN').heap.size = W'.heap.size := by simp [World.setCell]
  have hblk : ∀ b, b < W.heap.size → vN.ownBlock ≠ some b → W'.heap[b]? = W.heap[b]? := fun b hb hn => hg.block b hb (by first | exact hn | exact fun e => hn e.symm)
  have h1 : ∀ b, JD w M W vN vL b → vN'.ownBlock ≠ some b := fun b hd => by
    rcases hlie with e | e
    · rw [e]; exact hd.2.2.1
    · rw [e]; intro e2; have := Option.some.inj e2; have := hd.2.1; omega
  have h2 : ∀ b o, JD w M W vN vL b → (W'.setCell ⟨w.heap.size + 1, 2, none⟩ vN').cell? ⟨b, o, none⟩ = W.cell? ⟨b, o, none⟩ := fun b o hd => by
    have h1 := hd.1
    rw [World.cell?_setCell_other _ _ _ _ (by intro e; have := congrArg Addr.block e; simp at this; omega)]
    exact World.cell?_of_block (a := ⟨b, o, none⟩) (hblk b hd.2.1 hd.2.2.1)
  exact RdD.step (fun b hd => ⟨hd.1, by rw [hsz]; have := hd.2.1; omega, h1 b hd, hd.2.2.2⟩) h2 hx
theorem jd_below {w W W' : World} {R M : Nat} {kk : Int} {f : Nat} {ns : List ByteArray} {xs : List JV} {cs : List Value} {vN vL : Value} (h : JSt w R M kk f ns xs cs vN vL W) (hR : R < w.heap.size) {d : Nat} {x : JV} {v : Value} (hx : RdD W (JD w M W vN vL) d x v) (hb : Below W.heap.size W W') : JSt w R M kk f ns xs cs vN vL W' ∧ RdD W' (JD w M W' vN vL) d x v := by
  have hz := hb.size
  exact ⟨h.grow hR (Aw2.ofAw (Aw.of hb) M), RdD.step (fun b hd => ⟨hd.1, by have := hd.2.1; omega, hd.2.2⟩) (fun b o hd => World.cell?_of_block (a := ⟨b, o, none⟩) (hb.block b hd.2.1)) hx⟩

/-- The reader behind an append to one of the rows. -/
theorem rv_row {w W W' : World} {R : Nat} {a : Option Addr} {cap : Nat} {ts : List Tk} {p0 q : Nat} (h0 : Rv w R a cap ts p0) (hr : Rv W R a cap ts q) (hz : w.heap.size ≤ W.heap.size) {ob : Option Nat} (hg : W.grownBy W' ob) (hob : ∀ g, ob = some g → w.heap.size ≤ g) (j : Nat) (v : Value) : Rv (W'.setCell ⟨w.heap.size + 1, j, none⟩ v) R a cap ts q := by
  have hRlt := h0.lt
  have hgo : ∀ b, b < w.heap.size → W'.heap[b]? = W.heap[b]? := fun b hb => hg.block b (by omega) (fun e => by
    have := hob b (by first | exact e | exact e.symm)
    omega)
  refine hr.keepT ?_ (fun g e hp => ?_)
  · rw [Below.heap_setCell _ _ _ _ (show R ≠ w.heap.size + 1 by omega)]
    exact hgo R hRlt
  · have hg := h0.tokLt g e hp
    rw [Below.heap_setCell _ _ _ _ (show g ≠ w.heap.size + 1 by omega)]
    exact hgo g hg

set_option maxHeartbeats 8000000 in
set_option maxRecDepth 100000 in
theorem vobject_any {R : Nat} {a : Option Addr} {cap : Nat} {ts : List Tk} {p : Nat} (f dep n : Nat) (w : World) (h : Rv w R a cap ts p) (hdep : dep ≤ 12) (hn : (ahead ts p).length < n) (ih : ValOkV R a cap ts f (dep + 1)) :
    Calls Tryz.prog 201 #[.pointer (some ⟨R, 0, none⟩), .int .i64 dep] w (VIsV R a cap ts (f + 2) w (vObjGo (pvT f) n (ahead ts p) [] [])) := by
  obtain ⟨i2, hi2, hz20, hz21, hz22⟩ := info_parts infoVal
  obtain ⟨i3, hi3, hz30, hz31, hz32⟩ := info_parts infoStr
  have HI := Lib.hid ih
  have HH := Lib.hid h
  have hRlt := h.lt
  have hts := h.hs
  have hl9 : (ahead ts p).length ≤ 9000 := by rw [ahead_len]; omega
  clear ih
  have HR0 := Lib.hid ((h.alloc (.cells #[.int .i64 0, .string ⟨#[]⟩, .slice none 0 0, .slice none 0 0] 45)).alloc (.cells #[.int .i64 8, .string ⟨#[]⟩, .slice none 0 0, .slice none 0 0] 45))
  have HS0 := Lib.hid (jst_init w _ R R 8 (f + 1) hRlt (.inl rfl) (Aw.refl R (w.heap.size + 2) ((w.alloc (.cells #[.int .i64 0, .string ⟨#[]⟩, .slice none 0 0, .slice none 0 0] 45)).alloc (.cells #[.int .i64 8, .string ⟨#[]⟩, .slice none 0 0, .slice none 0 0] 45))))
  clear h
  go_enter Tryz.func201, Tryz.ntmps201
  go_wp2_with fail
  go_loopg [7, 8, 9, 10] n (fun k _ _ _ _ wr => ORelV w R a cap ts f (pvT f) (vObjGo (pvT f) n (ahead ts p) [] []) k wr)
  case atStart => exact ⟨n, [], [], [], _, _, p, rfl, hn, by simpa using hl9, Lib.hid rfl, by simp, HR0.out, HS0.out, rfl⟩
  case round =>
    obtain ⟨j, ns, xs, cs, vN, vL, q, rfl, hj, hxl, hnx, hnz, hr, hst, hres⟩ := hrel
    generalize vObjGo (pvT f) n (ahead ts p) [] [] = RES at *
    clear HR0 HS0 hn hl9
    obtain ⟨k, rfl⟩ : ∃ k', j = k' + 1 := ⟨j - 1, by omega⟩
    have HRES := Lib.hid hres
    have HR := Lib.hid hr
    have HNZ := Lib.hid hnz
    have hRr := hr.lt
    have HST := Lib.hid hst
    clear hres hnz
    by_cases h125 : sg (hdK (ahead ts q)) 125 = true
    · have HT := takeSign_yes 125 wr hr h125
      have HU := Lib.hid (show RES = (.mk 8 ⟨#[]⟩ ns xs, (ahead ts q).tail, 0) by rw [← HRES.out]; unfold vObjGo; rw [if_pos h125])
      clear h125 hr hst
      go_wp2_with fail
      refine HT.mono ?_
      rintro e w2 ⟨rfl, q2, hl2, hr2, ha2⟩
      have hst2 := HST.out.grow hRlt (Aw2.ofAw ha2 R)
      have HST2 := Lib.hid hst2
      have HL2 := Lib.hid hl2
      obtain ⟨aL, cL, rfl, _, _⟩ := fresh_row hst2.oL
      obtain ⟨aN, cN, rfl, _, _⟩ := fresh_row hst2.oN
      obtain ⟨_, hsz, b0, b1, b2, b3, bf, ⟨r0, r1, r2, r3, rf⟩, _⟩ := hst2
      clear hl2
      go_wp2_with fail
      refine bodyPost_ret (v := .tuple #[.agg #[.int .i64 8, .string ⟨#[]⟩, .slice aN ns.length cN, .slice aL xs.length cL], .int .i64 0]) (by simp [results, Tryz.results201, go_sem, r0, r1, r2, r3]) rfl ?_
      rw [HU.out]
      have hnx' := hnx.out
      exact list_end HH.out HST2.out HL2.out hr2 (by omega) (by omega) HNZ.out
    · have h125 : sg (hdK (ahead ts q)) 125 = false := by simpa using h125
      have HT := takeSign_no 125 wr hr h125
      by_cases h1 : (hdK (ahead ts q)).1 = 1
      · by_cases h58 : sg (hdK (ahead ts q).tail) 58 = true
        · -- a name and its value
          have HV := Lib.hid (show RES = if (pvT f (ahead ts q).tail.tail).2.2 = 0 then vObjGo (pvT f) k (pvT f (ahead ts q).tail.tail).2.1 (ns ++ [⟨(hdK (ahead ts q)).2.toArray⟩]) (xs ++ [(pvT f (ahead ts q).tail.tail).1]) else (vz, (pvT f (ahead ts q).tail.tail).2.1, (pvT f (ahead ts q).tail.tail).2.2) by rw [← HRES.out, vObjGo, if_neg (by rw [h125]; decide), if_pos h1, if_pos h58])
          have hless := pvT_less f (ahead ts q).tail.tail
          have htt : (ahead ts q).tail.tail.length ≤ (ahead ts q).length := by rw [List.length_tail, List.length_tail]; omega
          have hwrap : IntKind.i64.wrap ((dep : Int) + 1) = (dep : Int) + 1 := IntWalk.i64_in _ (by omega)
          have H1 := Lib.hid h1
          have H58 := Lib.hid h58
          clear h125 hr hst h1 h58
          go_wp2_with fail
          refine HT.mono ?_
          rintro e w2 ⟨rfl, hb2⟩
          have hr2 := HR.out.below hb2
          have hst2 := HST.out.grow hRlt (Aw2.ofAw (Aw.of hb2) R)
          have HT2 := takeName_yes w2 hr2 H1.out
          have HST2 := Lib.hid hst2
          clear hr2 hst2 hb2
          go_wp2_with fail
          refine HT2.mono ?_
          rintro e wa ⟨rfl, hzn, qa, hla, hra, haa⟩
          have hsta := HST2.out.grow hRlt (Aw2.ofAw haa R)
          have HT3 := takeSign_yes 58 wa hra (by rw [hla]; exact H58.out)
          rw [hla] at HT3
          have HSTa := Lib.hid hsta
          have HZN := Lib.hid hzn
          clear hsta hla hra haa hzn
          go_wp2_with fail
          refine HT3.mono ?_
          rintro e wb ⟨rfl, qb, hlb, hrb, hab⟩
          have hstb := HSTa.out.grow hRlt (Aw2.ofAw hab R)
          have HC := HI.out qb wb hrb
          rw [hlb, show ((dep + 1 : Nat) : Int) = (dep : Int) + 1 by omega] at HC
          have hRb := hrb.lt
          have HSTb := Lib.hid hstb
          generalize hnm : (hdK (ahead ts q)).2 = nm at *
          generalize pvT f (ahead ts q).tail.tail = RV at *
          obtain ⟨x, l', er⟩ := RV
          clear hstb hlb hrb hab hnm HI
          go_wp2_with fail
          refine HC.mono ?_
          rintro e w3 ⟨⟨q3, hl3, hr3, ha3⟩, hv⟩
          dsimp only at hl3 hv hless HV
          by_cases he : er = 0
          · subst he
            rw [if_pos rfl] at hv
            obtain ⟨v, rfl, hRd⟩ := hv
            obtain ⟨an, cn, ap, cp, rfl⟩ := hRd.shape
            have HN := Lib.hid (show RES = vObjGo (pvT f) k l' (ns ++ [⟨nm.toArray⟩]) (xs ++ [x]) by rw [HV.out, if_pos rfl])
            have hlt := hless rfl
            obtain ⟨b33, b32, bf3, hW⟩ := list_armG HSTb.out hRlt hRb ha3 hRd
            have hlt3 : w.heap.size + 1 < w3.heap.size := by have h1 := ha3.size; have := HSTb.out.sz; omega
            obtain ⟨aL, cL, rfl, hcL, _⟩ := fresh_row HSTb.out.oL
            obtain ⟨aN, cN, rfl, hcN, _⟩ := fresh_row HSTb.out.oN
            have hb5 : Below w3.heap.size w3 ((w3.alloc (.cells #[.int .i64 x.k, .string x.s, .slice an x.ns.length cn, .slice ap x.ps.length cp] 45)).alloc (.cells #[.string ⟨nm.toArray⟩] 9)) := ((Below.refl _ w3).alloc (Nat.le_refl _) _).alloc (by simp) _
            obtain ⟨hA, hX⟩ := hW _ hb5
            have HA := Lib.hid hA
            have HX := Lib.hid hX
            have HC4 := Lib.hid (cell_second w3 (.cells #[.int .i64 x.k, .string x.s, .slice an x.ns.length cn, .slice ap x.ps.length cp] 45) (.string ⟨nm.toArray⟩) 9)
            have HP4 := Lib.hid (show ∀ j u, [Value.int .i64 x.k, .string x.s, .slice an x.ns.length cn, .slice ap x.ps.length cp][j]? = some u → ((w3.alloc (.cells #[.int .i64 x.k, .string x.s, .slice an x.ns.length cn, .slice ap x.ps.length cp] 45)).alloc (.cells #[.string ⟨nm.toArray⟩] 9)).cell? ⟨w3.heap.size, j, none⟩ = some u from fun j u hu => by
              have := cell_four_new w3 (.int .i64 x.k) (.string x.s) (.slice an x.ns.length cn) (.slice ap x.ps.length cp) 45 j u hu
              rw [Go.WideShapes.add_plain, Nat.zero_add] at this
              exact (World.cell?_of_block (a := ⟨w3.heap.size, j, none⟩) (Below.heap_alloc _ _ _ (by simp))).trans this)
            have HO4 := Lib.hid (str_one ⟨nm.toArray⟩)
            have HZ4 := Lib.hid hA.sz
            have HS4 : Hid (((w3.alloc (.cells #[.int .i64 x.k, .string x.s, .slice an x.ns.length cn, .slice ap x.ps.length cp] 45)).alloc (.cells #[.string ⟨nm.toArray⟩] 9)).heap.size = w3.heap.size + 2) := Lib.hid (by simp)
            have HL3 := Lib.hid hl3
            have HR3 := Lib.hid (hr3.below hb5)
            have hnb : ns.length ≤ 9000 := by have := hnx.out; omega
            have hNlt : ∀ g, (Value.slice aN ns.length cN).ownBlock = some g → w.heap.size + 2 ≤ g ∧ g < wb.heap.size := fun g e => HSTb.out.oN.lt g e
            have HNL := Lib.hid hNlt
            have hz3 := ha3.size
            clear hl3 hr3 ha3 hRd hW hA hX hb5 HV HC hNlt
            go_wp2_with (at_builtin; refine wpList_append_lies _ rfl _ _ 42 rfl (w.heap.size + 2) 9 i3 (.string ⟨#[]⟩) 1 16 Tryz.underlying42 hi3 hz30 hz31 hz32 rfl (by decide) (.slice aN ns.length cN) ns.length (ns.map Value.string) rfl HA.out.oN ⟨w3.heap.size + 1, 0, none⟩ 1 1 [.string ⟨nm.toArray⟩] rfl rfl HC4.out HO4.out (by decide) (by unfold maxLen; omega) (by omega) HZ4.out (w3.heap.size + 2) HS4.out ?_)
            intro g7 cap7 w7 hown7 hg7 hlie7 hl7
            obtain ⟨c7, f7⟩ := HA.out.boxN hg7
            have e7 := (c7 2).trans HA.out.b2
            have hlieN : (Value.slice (some ⟨g7, 0, none⟩) (ns.length + 1) cap7).ownBlock = (Value.slice aN ns.length cN).ownBlock ∨ (Value.slice (some ⟨g7, 0, none⟩) (ns.length + 1) cap7).ownBlock = some ((w3.alloc (.cells #[.int .i64 x.k, .string x.s, .slice an x.ns.length cn, .slice ap x.ps.length cp] 45)).alloc (.cells #[.string ⟨nm.toArray⟩] 9)).heap.size := by
              rcases hlie7 with e | e
              · exact .inl e.symm
              · exact .inr (by rw [HS4.out, e]; rfl)
            have hm7 := HA.out.name hown7 hg7 hlieN (by rw [HS4.out]; omega)
            have hx7 := name_rd hg7 hlieN HX.out
            have hr7 := rv_row HH.out HR3.out (by rw [HS4.out]; omega) hg7 (fun g e => by have := (HNL.out g e).1; omega) 2 (.slice (some ⟨g7, 0, none⟩) (ns.length + 1) cap7)
            have hs7 : w3.heap.size < (w7.setCell ⟨w.heap.size + 1, 2, none⟩ (.slice (some ⟨g7, 0, none⟩) (ns.length + 1) cap7)).heap.size := by
              have := hg7.size
              rw [HS4.out] at this
              have e : (w7.setCell ⟨w.heap.size + 1, 2, none⟩ (.slice (some ⟨g7, 0, none⟩) (ns.length + 1) cap7)).heap.size = w7.heap.size := by simp [World.setCell]
              omega
            have hp7 : ∀ j u, [Value.int .i64 x.k, .string x.s, .slice an x.ns.length cn, .slice ap x.ps.length cp][j]? = some u → (w7.setCell ⟨w.heap.size + 1, 2, none⟩ (.slice (some ⟨g7, 0, none⟩) (ns.length + 1) cap7)).cell? ⟨w3.heap.size, j, none⟩ = some u := fun j u hu => by
              rw [World.cell?_setCell_other _ _ _ _ (by intro e; have := congrArg Addr.block e; simp at this; omega)]
              rw [World.cell?_of_block (a := ⟨w3.heap.size, j, none⟩) (hg7.block w3.heap.size (by rw [HS4.out]; omega) (fun e => by
                have := (HNL.out w3.heap.size (by first | exact e | exact e.symm)).2
                omega))]
              exact HP4.out j u hu
            have HM7 := Lib.hid hm7
            have HX7 := Lib.hid hx7
            have HR7 := Lib.hid hr7
            have HS7 := Lib.hid hs7
            have HP7 := Lib.hid hp7
            clear c7 hg7 hown7 hlie7 hlieN hm7 hx7 hr7 hs7 hp7 HC4 HO4 HZ4 HS4 HX HA HP4
            go_upto_region 10 with fail
            generalize w7.setCell ⟨w.heap.size + 1, 2, none⟩ (.slice (some ⟨g7, 0, none⟩) (ns.length + 1) cap7) = W7 at *
            have q0 := HP7.out 0 _ rfl
            have q1 := HP7.out 1 _ rfl
            have q2 := HP7.out 2 _ rfl
            have q3' := HP7.out 3 _ rfl
            have b73 := HM7.out.b3
            have hlt7 : w.heap.size + 1 < W7.heap.size := by have := HM7.out.sz; omega
            have hb8 : Below W7.heap.size W7 (W7.alloc (.cells #[.int .i64 x.k, .string x.s, .slice an x.ns.length cn, .slice ap x.ps.length cp] 45)) := (Below.refl _ W7).alloc (Nat.le_refl _) _
            obtain ⟨hA8, hX8⟩ := jd_below HM7.out hRlt HX7.out hb8
            have HA8 := Lib.hid hA8
            have HX8 := Lib.hid hX8
            have HR8 := Lib.hid (HR7.out.below hb8)
            have HC8 := Lib.hid (cell_four_new W7 (.int .i64 x.k) (.string x.s) (.slice an x.ns.length cn) (.slice ap x.ps.length cp) 45)
            have HO8 := Lib.hid (four_one x.k x.s an x.ns.length cn ap x.ps.length cp)
            have HZ8 := Lib.hid hA8.sz
            have HS8 : Hid ((W7.alloc (.cells #[.int .i64 x.k, .string x.s, .slice an x.ns.length cn, .slice ap x.ps.length cp] 45)).heap.size = W7.heap.size + 1) := Lib.hid (by simp)
            clear hA8 hX8 hb8 HM7 HX7 HR7 HP7
            go_wp2_with (at_builtin; refine wpList_append_lies _ rfl _ _ 43 rfl (w.heap.size + 2) 45 i2 (.agg #[.int .i64 0, .string ⟨#[]⟩, .slice none 0 0, .slice none 0 0]) 4 72 Tryz.underlying43 hi2 hz20 hz21 hz22 rfl (by decide) (.slice aL xs.length cL) xs.length cs rfl HA8.out.oL ⟨W7.heap.size, 0, none⟩ 1 1 [.int .i64 x.k, .string x.s, .slice an x.ns.length cn, .slice ap x.ps.length cp] rfl rfl HC8.out HO8.out (by decide) (by unfold maxLen; omega) (by omega) HZ8.out (W7.heap.size + 1) HS8.out ?_)
            intro g9 cap9 w9 hown9 hg9 hlie9 hl9
            obtain ⟨c9, f9⟩ := HA8.out.boxL hg9
            have e9 := (c9 3).trans HA8.out.b3
            have hm9 := HA8.out.list HX8.out hown9 hg9 (by
              rcases hlie9 with e | e
              · exact .inl e.symm
              · exact .inr (by rw [HS8.out, e]; rfl)) (by rw [HS8.out]; have := HS7.out; omega)
            have hr9 := rv_row HH.out HR8.out (by rw [HS8.out]; omega) hg9 (fun g e => by have := (HA8.out.oL.lt g e).1; omega) 3 (.slice (some ⟨g9, 0, none⟩) (xs.length + 1) cap9)
            have HM9 := Lib.hid hm9
            have HR9 := Lib.hid hr9
            clear hm9 hr9 c9 hg9 hown9 hlie9 HC8 HO8 HZ8 HS8 HX8 HA8 q0 q1 q2 q3'
            go_wp2_with fail
            go_roundg k
            case measure => omega
            case rel => exact ⟨k, ns ++ [⟨nm.toArray⟩], xs ++ [x], _, _, _, q3, rfl, by rw [HL3.out]; omega, by rw [HL3.out, List.length_append, List.length_singleton]; omega, Lib.hid (by rw [List.length_append, List.length_append, List.length_singleton, List.length_singleton, hnx.out]), (fun m hm => by
              rcases List.mem_append.1 hm with hm | hm
              · exact HNZ.out m hm
              · rw [List.mem_singleton.1 hm]; exact HZN.out), HR9.out, HM9.out, by rw [HL3.out]; exact HN.out.symm⟩
          · rw [if_neg he] at hv
            obtain ⟨rfl, h4⟩ := hv
            have HN := Lib.hid (show RES = (vz, l', er) by rw [HV.out, if_neg he])
            have hst3 := HSTb.out.grow hRlt (Aw2.ofAw ha3 R)
            have hne : ((er : Int) == 0) = false := by rw [beq_eq_false_iff_ne]; omega
            have HL3 := Lib.hid hl3
            have HE := Lib.hid he
            have HR3 := Lib.hid hr3
            have HA3 := Lib.hid hst3.aw
            have hlt3 : w.heap.size < w3.heap.size := by have := hst3.sz; omega
            have HF := Lib.hid (fun o => bx_fourA hst3.bx (.int .i64 0) (.string ⟨#[]⟩) (.slice none 0 0) (.slice none 0 0) o)
            obtain ⟨r0, r1, r2, r3, rf⟩ := hst3.bx
            clear hl3 hr3 ha3 HV HC hst3 he
            unfold leaf
            go_wp2_with fail
            obtain ⟨k0, k1, k2, k3⟩ := HF.out (.cells #[.int .i64 0, .string ⟨#[]⟩, .slice none 0 0, .slice none 0 0] 45)
            refine bodyPost_ret (v := .tuple #[leaf 0 ⟨#[]⟩, .int .i64 er]) (by simp [results, Tryz.results201, go_sem, k0, k1, k2, k3, leaf]) rfl ?_
            rw [HN.out]
            exact list_noneA HH.out _ HL3.out HR3.out HA3.out HE.out h4 _ _ _ _ _ _
        · -- no sign behind the name
          have h58 : sg (hdK (ahead ts q).tail) 58 = false := by simpa using h58
          have HN := Lib.hid (show RES = (vz, (ahead ts q).tail, 2) by rw [← HRES.out, vObjGo, if_neg (by rw [h125]; decide), if_pos h1, if_neg (by rw [h58]; decide)])
          have H1 := Lib.hid h1
          have H58 := Lib.hid h58
          clear h125 hr hst h1 h58
          go_wp2_with fail
          refine HT.mono ?_
          rintro e w2 ⟨rfl, hb2⟩
          have hr2 := HR.out.below hb2
          have hst2 := HST.out.grow hRlt (Aw2.ofAw (Aw.of hb2) R)
          have HT2 := takeName_yes w2 hr2 H1.out
          have HST2 := Lib.hid hst2
          clear hr2 hst2 hb2
          go_wp2_with fail
          refine HT2.mono ?_
          rintro e wa ⟨rfl, hzn, qa, hla, hra, haa⟩
          have hsta := HST2.out.grow hRlt (Aw2.ofAw haa R)
          have HT3 := takeSign_no 58 wa hra (by rw [hla]; exact H58.out)
          have HSTa := Lib.hid hsta
          have HLa := Lib.hid hla
          have HRa := Lib.hid hra
          clear hsta hla hra haa hzn
          go_wp2_with fail
          refine HT3.mono ?_
          rintro e w3 ⟨rfl, hb3⟩
          have hst3 := HSTa.out.grow hRlt (Aw2.ofAw (Aw.of hb3) R)
          have HR3 := Lib.hid (HRa.out.below hb3)
          have HA3 := Lib.hid hst3.aw
          have hlt3 : w.heap.size < w3.heap.size := by have := hst3.sz; omega
          have HF := Lib.hid (bx_four hst3.bx (.int .i64 0) (.string ⟨#[]⟩) (.slice none 0 0) (.slice none 0 0))
          obtain ⟨r0, r1, r2, r3, rf⟩ := hst3.bx
          clear hb3 hst3
          go_wp2_with fail
          obtain ⟨k0, k1, k2, k3⟩ := HF.out
          refine bodyPost_ret (v := .tuple #[leaf 0 ⟨#[]⟩, .int .i64 2]) (by simp [results, Tryz.results201, go_sem, k0, k1, k2, k3, leaf]) rfl ?_
          rw [HN.out]
          exact list_none (er := 2) HH.out _ HLa.out HR3.out HA3.out (by decide) (by decide) _ _ _ _ _
      · -- no name
        have HN := Lib.hid (show RES = (vz, ahead ts q, 2) by rw [← HRES.out, vObjGo, if_neg (by rw [h125]; decide), if_neg h1])
        have H1 := Lib.hid h1
        clear h125 hr hst h1
        go_wp2_with fail
        refine HT.mono ?_
        rintro e w2 ⟨rfl, hb2⟩
        have hr2 := HR.out.below hb2
        have hst2 := HST.out.grow hRlt (Aw2.ofAw (Aw.of hb2) R)
        have HT2 := takeName_no w2 hr2 H1.out
        have HST2 := Lib.hid hst2
        have HR2 := Lib.hid hr2
        clear hr2 hst2 hb2
        go_wp2_with fail
        refine HT2.mono ?_
        rintro e w3 ⟨rfl, hb3⟩
        have hst3 := HST2.out.grow hRlt (Aw2.ofAw (Aw.of hb3) R)
        have HR3 := Lib.hid (HR2.out.below hb3)
        have HA3 := Lib.hid hst3.aw
        have hlt3 : w.heap.size < w3.heap.size := by have := hst3.sz; omega
        have HF := Lib.hid (bx_four hst3.bx (.int .i64 0) (.string ⟨#[]⟩) (.slice none 0 0) (.slice none 0 0))
        obtain ⟨r0, r1, r2, r3, rf⟩ := hst3.bx
        clear hb3 hst3
        go_wp2_with fail
        obtain ⟨k0, k1, k2, k3⟩ := HF.out
        refine bodyPost_ret (v := .tuple #[leaf 0 ⟨#[]⟩, .int .i64 2]) (by simp [results, Tryz.results201, go_sem, k0, k1, k2, k3, leaf]) rfl ?_
        rw [HN.out]
        exact list_none (er := 2) HH.out _ rfl HR3.out HA3.out (by decide) (by decide) _ _ _ _ _

end Go.Proofs.YtibkncgfdhflgaaGreatDoor

/-
  What value.Value answers.
-/
namespace Go.Proofs.YtibkncgfdhflgaaGreatDoor
open Go.RowKit

/-- What is no value by itself: a sign, or nothing. -/
theorem plain_zero {t : Sk} (h : (plainV t).k = 0) : plainV t = vz := by
  unfold plainV at h ⊢
  by_cases h1 : t.1 = 1
  · rw [if_pos h1] at h
    exfalso
    unfold wordV at h
    split at h
    · exact absurd h (by decide)
    split at h
    · exact absurd h (by show ¬ ((2 : Int) = 0); decide)
    split at h
    · exact absurd h (by show ¬ ((2 : Int) = 0); decide)
    · exact absurd h (by show ¬ ((6 : Int) = 0); decide)
  rw [if_neg h1] at h ⊢
  by_cases h2 : t.1 = 2
  · rw [if_pos h2] at h; exact absurd h (by show ¬ ((3 : Int) = 0); decide)
  rw [if_neg h2] at h ⊢
  by_cases h3 : t.1 = 3
  · rw [if_pos h3] at h; exact absurd h (by show ¬ ((4 : Int) = 0); decide)
  rw [if_neg h3] at h ⊢
  by_cases h4 : t.1 = 4
  · rw [if_pos h4] at h; exact absurd h (by show ¬ ((5 : Int) = 0); decide)
  rw [if_neg h4]
theorem plain_leaf (t : Sk) : (plainV t).ns = [] ∧ (plainV t).ps = [] ∧ (plainV t).s.size ≤ t.2.length := by
  unfold plainV wordV
  split
  · split
    · exact ⟨rfl, rfl, Nat.zero_le _⟩
    split
    · exact ⟨rfl, rfl, Nat.le_refl _⟩
    split
    · exact ⟨rfl, rfl, Nat.le_refl _⟩
    · exact ⟨rfl, rfl, Nat.le_refl _⟩
  split
  · exact ⟨rfl, rfl, Nat.le_refl _⟩
  split
  · exact ⟨rfl, rfl, Nat.le_refl _⟩
  split
  · exact ⟨rfl, rfl, Nat.le_refl _⟩
  · exact ⟨rfl, rfl, Nat.zero_le _⟩
theorem plain_rd (W : World) (D : Nat → Prop) (n : Nat) (t : Sk) (h : t.2.length ≤ 1000000) : RdD W D (n + 1) (plainV t) (leafOf (plainV t)) := by
  obtain ⟨h1, h2, h3⟩ := plain_leaf t
  have e := JV.eta (plainV t)
  rw [h1, h2] at e
  have := rd_leaf W D n (plainV t).k (plainV t).s (by omega)
  rw [← e] at this
  exact this

/-- What pvT answers, where the token is no value by itself. -/
theorem pvT_plain {f : Nat} {l : List Sk} (h : (plainV (hdK l)).k ≠ 0) : pvT f l = (plainV (hdK l), l.tail, 0) := by
  cases f <;> (unfold pvT; rw [if_pos h])
theorem pvT_var {f : Nat} {l : List Sk} (h : (plainV (hdK l)).k = 0) (h1 : sg (hdK l) 36 = true) : pvT f l = varV l.tail := by
  cases f <;> (unfold pvT; rw [if_neg (by rw [h]; decide), if_pos h1])
theorem pvT_no {f : Nat} {l : List Sk} (h : (plainV (hdK l)).k = 0) (h1 : sg (hdK l) 36 = false) (h2 : sg (hdK l) 91 = false) (h3 : sg (hdK l) 123 = false) : pvT f l = (vz, l, 2) := by
  cases f <;> (unfold pvT; rw [if_neg (by rw [h]; decide), if_neg (by rw [h1]; decide), h2, h3]; rfl)
theorem pvT_deep {l : List Sk} (h : (plainV (hdK l)).k = 0) (h1 : sg (hdK l) 36 = false) (h2 : (sg (hdK l) 91 || sg (hdK l) 123) = true) : pvT 0 l = (vz, l, 4) := by
  unfold pvT
  rw [if_neg (by rw [h]; decide), if_neg (by rw [h1]; decide), if_pos h2]
theorem pvT_listS {f : Nat} {l : List Sk} (h : (plainV (hdK l)).k = 0) (h1 : sg (hdK l) 36 = false) (h2 : sg (hdK l) 91 = true) : pvT (f + 1) l = vListGo (pvT f) l.length l.tail [] := by
  conv => lhs; unfold pvT
  rw [if_neg (by rw [h]; decide), if_neg (by rw [h1]; decide), if_pos h2]
theorem pvT_objS {f : Nat} {l : List Sk} (h : (plainV (hdK l)).k = 0) (h1 : sg (hdK l) 36 = false) (h2 : sg (hdK l) 91 = false) (h3 : sg (hdK l) 123 = true) : pvT (f + 1) l = vObjGo (pvT f) l.length l.tail [] [] := by
  conv => lhs; unfold pvT
  rw [if_neg (by rw [h]; decide), if_neg (by rw [h1]; decide), if_neg (by rw [h2]; decide), if_pos h3]
theorem sg_one {t : Sk} {b c : UInt8} (h : sg t b = true) (hne : b ≠ c) : sg t c = false := by
  unfold sg at h ⊢
  rw [Bool.and_eq_true] at h
  have h2 := beq_iff_eq.1 h.2
  rw [h.1, h2]
  rw [Bool.true_and, beq_eq_false_iff_ne]
  intro e
  exact hne (by injection e)

/-- The cells of a token's box, and of a value's, in later worlds. -/
structure TkBox (W : World) (B : Nat) (t : Tk) : Prop where
  k0 : W.cell? ⟨B, 0, none⟩ = some (.int .i64 t.k)
  k1 : W.cell? ⟨B, 1, none⟩ = some (.string ⟨t.s.toArray⟩)
  k2 : W.cell? ⟨B, 2, none⟩ = some (.int .i64 t.at_)
theorem TkBox.keep {W W' : World} {B : Nat} {t : Tk} (h : TkBox W B t) (hb : W'.heap[B]? = W.heap[B]?) : TkBox W' B t := by
  have c : ∀ o, W'.cell? ⟨B, o, none⟩ = W.cell? ⟨B, o, none⟩ := fun o => World.cell?_of_block (a := ⟨B, o, none⟩) hb
  exact ⟨(c 0).trans h.k0, (c 1).trans h.k1, (c 2).trans h.k2⟩
theorem TkBox.new (w : World) (t : Tk) : TkBox (w.alloc (.cells #[.int .i64 t.k, .string ⟨t.s.toArray⟩, .int .i64 t.at_] 83)) w.heap.size t := by
  have hb : (w.alloc (.cells #[.int .i64 t.k, .string ⟨t.s.toArray⟩, .int .i64 t.at_] 83)).heap[w.heap.size]? = some (.cells #[.int .i64 t.k, .string ⟨t.s.toArray⟩, .int .i64 t.at_] 83 (0, 0)) := heap_alloc_new _ _
  exact ⟨Lib.cell_of_heap hb 0, Lib.cell_of_heap hb 1, Lib.cell_of_heap hb 2⟩
/-- What a call within answered is handed on. -/
theorem vis_on {R : Nat} {a : Option Addr} {cap : Nat} {ts : List Tk} {n : Nat} {w w1 W : World} {p0 p1 : Nat} (h0 : Rv w R a cap ts p0) (_h1 : Rv w1 R a cap ts p1) (ha : Aw R w.heap.size w w1) (hz : w.heap.size < w1.heap.size) {r : VR} {e : Ending} (h : VIsV R a cap ts n w1 r e W) :
    ∃ v er, e = .returned (.tuple #[v, .int .i64 er]) ∧ (∃ k s an ln cn ap lp cp, v = .agg #[.int .i64 k, .string s, .slice an ln cn, .slice ap lp cp]) ∧ (∀ B, B < w1.heap.size → B ≠ R → W.heap[B]? = w1.heap[B]?) ∧
      ∀ c0 c1 c2 c3, VIsV R a cap ts n w r e ((((W.setCell ⟨w.heap.size, 0, none⟩ c0).setCell ⟨w.heap.size, 1, none⟩ c1).setCell ⟨w.heap.size, 2, none⟩ c2).setCell ⟨w.heap.size, 3, none⟩ c3) := by
  obtain ⟨⟨q, hl, hr, haw⟩, hv⟩ := h
  have hn : ∀ c0 c1 c2 c3, NowV R a cap ts w r.2.1 ((((W.setCell ⟨w.heap.size, 0, none⟩ c0).setCell ⟨w.heap.size, 1, none⟩ c1).setCell ⟨w.heap.size, 2, none⟩ c2).setCell ⟨w.heap.size, 3, none⟩ c3) := fun c0 c1 c2 c3 => NowV.four h0 hl hr (ha.trans (haw.mono (by omega))) _ _ _ _
  by_cases he : r.2.2 = 0
  · rw [if_pos he] at hv
    obtain ⟨v, rfl, hR⟩ := hv
    have hs : ∃ k s an ln cn ap lp cp, v = .agg #[.int .i64 k, .string s, .slice an ln cn, .slice ap lp cp] := by
      obtain ⟨an, cn, ap, cp, e⟩ := hR.shape
      exact ⟨_, _, _, _, _, _, _, _, e⟩
    refine ⟨v, 0, rfl, hs, fun B hB hne => haw.block B hB hne, fun c0 c1 c2 c3 => ⟨hn c0 c1 c2 c3, ?_⟩⟩
    rw [if_pos he]
    exact ⟨v, rfl, rd_boxed hz hR _ _ _ _⟩
  · rw [if_neg he] at hv
    refine ⟨_, _, hv.1, ⟨_, _, _, _, _, _, _, _, rfl⟩, fun B hB hne => haw.block B hB hne, fun c0 c1 c2 c3 => ⟨hn c0 c1 c2 c3, ?_⟩⟩
    rw [if_neg he]
    exact hv

set_option maxHeartbeats 8000000 in
set_option maxRecDepth 100000 in
theorem vvalue_step {R : Nat} {a : Option Addr} {cap : Nat} {ts : List Tk} (f dep : Nat) (hf : dep + f = 13) (ih : ∀ f', f = f' + 1 → ValOkV R a cap ts f' (dep + 1)) : ValOkV R a cap ts f dep := by
  intro p w h
  have HI := Lib.hid ih
  have HH := Lib.hid h
  have hRlt := h.lt
  have hts := h.hs
  have hA := h.alloc (.cells #[.int .i64 0, .string ⟨#[]⟩, .slice none 0 0, .slice none 0 0] 45)
  have hX := Bx.new w
  have hb0 : Below w.heap.size w (w.alloc (.cells #[.int .i64 0, .string ⟨#[]⟩, .slice none 0 0, .slice none 0 0] 45)) := (Below.refl _ w).alloc (Nat.le_refl _) _
  have HT := token_any _ hA
  clear ih h
  go_enter Tryz.func194, Tryz.ntmps194
  go_wp2_with fail
  refine HT.mono ?_
  rintro e w1 ⟨t, ht, hz, rfl, hb1⟩
  have hr1 := (hA.below hb1).alloc (.cells #[.int .i64 t.k, .string ⟨t.s.toArray⟩, .int .i64 t.at_] 83)
  have hx1 : Bx w1 w.heap.size := hX.keep (hb1.block _ (by simp))
  have ha1 : Below w.heap.size w w1 := hb0.trans (hb1.mono (by simp))
  have hlt1 : w.heap.size < w1.heap.size := by have := hb1.size; simp at this; omega
  have hk1 := TkBox.new w1 t
  have HP := plain_any t (w1.alloc (.cells #[.int .i64 t.k, .string ⟨t.s.toArray⟩, .int .i64 t.at_] 83))
  have HR1 := Lib.hid hr1
  have HX1 := Lib.hid hx1
  have HA1 := Lib.hid ha1
  have HK1 := Lib.hid hk1
  have HT1 := Lib.hid ht
  clear hA hX hb0 HT hr1 hx1 ha1 hk1 hb1 ht
  go_wp2_with fail
  refine HP.mono ?_
  rintro e w2 ⟨rfl, hb2⟩
  have hz2 := hb2.size
  simp at hz2
  have hr2 := HR1.out.below hb2
  have hx2 : Bx w2 w.heap.size := HX1.out.keep ((hb2.block _ (by simp; omega)).trans (Below.heap_alloc _ _ _ hlt1))
  have hk2 : TkBox w2 w1.heap.size t := HK1.out.keep (hb2.block _ (by simp))
  have ha2 : Below w.heap.size w w2 := (HA1.out.alloc (by omega) _).trans (hb2.mono (by simp; omega))
  rw [HT1.out]
  have hRlt2 : R < w2.heap.size := by omega
  by_cases hp0 : (plainV (hdK (ahead ts p))).k = 0
  · -- no value by itself
    rw [plain_zero hp0]
    have HP0 := Lib.hid hp0
    have hvz : leafOf vz = .agg #[.int .i64 0, .string ⟨#[]⟩, .slice none 0 0, .slice none 0 0] := rfl
    rw [hvz]
    have hr3 := hr2.alloc (.cells #[.int .i64 0, .string ⟨#[]⟩, .slice none 0 0, .slice none 0 0] 45)
    have hx3 : Bx (w2.alloc (.cells #[.int .i64 0, .string ⟨#[]⟩, .slice none 0 0, .slice none 0 0] 45)) w.heap.size := hx2.keep (Below.heap_alloc _ _ _ (by omega))
    have hk3 : TkBox (w2.alloc (.cells #[.int .i64 0, .string ⟨#[]⟩, .slice none 0 0, .slice none 0 0] 45)) w1.heap.size t := hk2.keep (Below.heap_alloc _ _ _ (by omega))
    have ha3 : Below w.heap.size w (w2.alloc (.cells #[.int .i64 0, .string ⟨#[]⟩, .slice none 0 0, .slice none 0 0] 45)) := ha2.alloc (by omega) _
    have hz3 : (w2.alloc (.cells #[.int .i64 0, .string ⟨#[]⟩, .slice none 0 0, .slice none 0 0] 45)).heap.size = w2.heap.size + 1 := by simp
    have HR3 := Lib.hid hr3
    have HX3 := Lib.hid hx3
    have HK3 := Lib.hid hk3
    have HA3 := Lib.hid ha3
    have HZ3 := Lib.hid hz3
    clear hp0 hvz hr2 hx2 hk2 ha2 hb2 hr3 hx3 hk3 ha3 hz3 HP
    by_cases h36 : sg (hdK (ahead ts p)) 36 = true
    · have HT := takeSign_yes 36 _ HR3.out h36
      have HU := Lib.hid (pvT_var (f := f) HP0.out h36)
      clear h36
      go_wp2_with fail
      refine HT.mono ?_
      rintro e w4 ⟨rfl, q4, hl4, hr4, ha4⟩
      have ha04 : Aw R w.heap.size w w4 := (Aw.of HA3.out).trans (ha4.mono (by rw [HZ3.out]; omega))
      have hz4 : w.heap.size < w4.heap.size := by have := ha4.size; rw [HZ3.out] at this; omega
      have hx4 : Bx w4 w.heap.size := HX3.out.keep (ha4.block _ (by rw [HZ3.out]; omega) (by omega))
      have HV := variable_any f w4 hr4
      rw [hl4] at HV
      have HX4 := Lib.hid hx4
      have HR4 := Lib.hid hr4
      have HA4 := Lib.hid ha04
      clear hl4 hr4 ha4 hx4 ha04
      go_wp2_with fail
      refine HV.mono ?_
      intro e w5 hv
      obtain ⟨v, er, rfl, ⟨k, s, an, ln, cn, ap, lp, cp, rfl⟩, hblk, hfin⟩ := vis_on HH.out HR4.out HA4.out hz4 hv
      have hx5 : Bx w5 w.heap.size := HX4.out.keep (hblk _ hz4 (by omega))
      have HF := Lib.hid hfin
      obtain ⟨r0, r1, r2, r3, rf⟩ := hx5
      clear hblk hfin hv HV
      go_wp2_with fail
      refine bodyPost_ret (v := .tuple #[.agg #[.int .i64 k, .string s, .slice an ln cn, .slice ap lp cp], .int .i64 er]) (by simp [results, Tryz.results194, go_sem, r0, r1, r2, r3]) rfl ?_
      rw [HU.out]
      exact HF.out _ _ _ _
    · have h36 : sg (hdK (ahead ts p)) 36 = false := by simpa using h36
      have HT := takeSign_no 36 _ HR3.out h36
      have H36 := Lib.hid h36
      clear h36
      go_wp2_with fail
      refine HT.mono ?_
      rintro e w4 ⟨rfl, hb4⟩
      have hz4 := hb4.size
      rw [HZ3.out] at hz4
      have hr4 := HR3.out.below hb4
      have ha4 : Below w.heap.size w w4 := HA3.out.trans (hb4.mono (by rw [HZ3.out]; omega))
      have hx4 : Bx w4 w.heap.size := HX3.out.keep (hb4.block _ (by rw [HZ3.out]; omega))
      have hk4 : TkBox w4 w1.heap.size t := HK3.out.keep (hb4.block _ (by rw [HZ3.out]; omega))
      have HR4 := Lib.hid hr4
      have HX4 := Lib.hid hx4
      have HA4 := Lib.hid ha4
      have HK4 := Lib.hid hk4
      have HI4 := isSign_any t 91 w4
      rw [HT1.out] at HI4
      obtain ⟨t0, t1, t2⟩ := hk4
      clear hb4 hr4 ha4 hx4 HT
      by_cases h91 : sg (hdK (ahead ts p)) 91 = true
      · rw [h91] at HI4
        have H91 := Lib.hid h91
        clear h91
        go_wp2_with fail
        refine HI4.mono ?_
        rintro e w5 ⟨rfl, hb5⟩
        have hz5 := hb5.size
        have hr5 := HR4.out.below hb5
        have ha5 : Below w.heap.size w w5 := HA4.out.trans (hb5.mono (by omega))
        have hx5 : Bx w5 w.heap.size := HX4.out.keep (hb5.block _ (by omega))
        clear hb5 HI4 t0 t1 t2
        cases f with
        | zero =>
          have hd : decide ((12 : Int) < (dep : Int)) = true := decide_eq_true (by omega)
          have HU := Lib.hid (pvT_deep HP0.out H36.out (by rw [H91.out]; rfl))
          have HR5 := Lib.hid hr5
          have HA5 := Lib.hid ha5
          have HF := Lib.hid (bx_four hx5 (.int .i64 0) (.string ⟨#[]⟩) (.slice none 0 0) (.slice none 0 0))
          obtain ⟨r0, r1, r2, r3, rf⟩ := hx5
          clear hr5 ha5
          go_wp2_with fail
          obtain ⟨k0, k1, k2, k3⟩ := HF.out
          refine bodyPost_ret (v := .tuple #[leaf 0 ⟨#[]⟩, .int .i64 4]) (by simp [results, Tryz.results194, go_sem, k0, k1, k2, k3, leaf]) rfl ?_
          rw [HU.out]
          exact list_none (er := 4) HH.out _ rfl HR5.out (Aw.of HA5.out) (by decide) (by decide) _ _ _ _ _
        | succ f =>
          have hd : decide ((12 : Int) < (dep : Int)) = false := decide_eq_false (by omega)
          have HU := Lib.hid (pvT_listS (f := f) HP0.out H36.out H91.out)
          have HT5 := takeSign_yes 91 w5 hr5 H91.out
          have HX5 := Lib.hid hx5
          have HA5 := Lib.hid ha5
          clear hr5 ha5 hx5
          go_wp2_with fail
          refine HT5.mono ?_
          rintro e w6 ⟨rfl, q6, hl6, hr6, ha6⟩
          have hz6 := ha6.size
          have hlt := sg_ne H91.out
          have HL := vlist_any f dep (ahead ts p).length w6 hr6 (by omega) (by rw [hl6]; exact hlt) (HI.out f rfl)
          rw [hl6] at HL
          have ha06 : Aw R w.heap.size w w6 := (Aw.of HA5.out).trans (ha6.mono (by omega))
          have hx6 : Bx w6 w.heap.size := HX5.out.keep (ha6.block _ (by omega) (by omega))
          have HX6 := Lib.hid hx6
          have HR6 := Lib.hid hr6
          have HA6 := Lib.hid ha06
          clear hl6 hr6 ha6 hx6 ha06 hlt
          go_wp2_with fail
          refine HL.mono ?_
          intro e w7 hv
          obtain ⟨v, er, rfl, ⟨k, s, an, ln, cn, ap, lp, cp, rfl⟩, hblk, hfin⟩ := vis_on HH.out HR6.out HA6.out (by omega) hv
          have hx7 : Bx w7 w.heap.size := HX6.out.keep (hblk _ (by omega) (by omega))
          have HF := Lib.hid hfin
          obtain ⟨r0, r1, r2, r3, rf⟩ := hx7
          clear hblk hfin hv HL
          go_wp2_with fail
          refine bodyPost_ret (v := .tuple #[.agg #[.int .i64 k, .string s, .slice an ln cn, .slice ap lp cp], .int .i64 er]) (by simp [results, Tryz.results194, go_sem, r0, r1, r2, r3]) rfl ?_
          rw [HU.out]
          exact HF.out _ _ _ _
      · have h91 : sg (hdK (ahead ts p)) 91 = false := by simpa using h91
        rw [h91] at HI4
        have H91 := Lib.hid h91
        clear h91
        go_wp2_with fail
        refine HI4.mono ?_
        rintro e w5 ⟨rfl, hb5⟩
        have hz5 := hb5.size
        have hr5 := HR4.out.below hb5
        have ha5 : Below w.heap.size w w5 := HA4.out.trans (hb5.mono (by omega))
        have hx5 : Bx w5 w.heap.size := HX4.out.keep (hb5.block _ (by omega))
        have hk5 : TkBox w5 w1.heap.size t := HK4.out.keep (hb5.block _ (by omega))
        have HI5 := isSign_any t 123 w5
        rw [HT1.out] at HI5
        have HR5 := Lib.hid hr5
        have HX5 := Lib.hid hx5
        have HA5 := Lib.hid ha5
        obtain ⟨s0, s1, s2⟩ := hk5
        clear hb5 hr5 ha5 hx5 HI4 t0 t1 t2
        by_cases h123 : sg (hdK (ahead ts p)) 123 = true
        · rw [h123] at HI5
          have H123 := Lib.hid h123
          clear h123
          go_wp2_with fail
          refine HI5.mono ?_
          rintro e w6 ⟨rfl, hb6⟩
          have hz6 := hb6.size
          have hr6 := HR5.out.below hb6
          have ha6 : Below w.heap.size w w6 := HA5.out.trans (hb6.mono (by omega))
          have hx6 : Bx w6 w.heap.size := HX5.out.keep (hb6.block _ (by omega))
          clear hb6 HI5 s0 s1 s2
          cases f with
          | zero =>
            have hd : decide ((12 : Int) < (dep : Int)) = true := decide_eq_true (by omega)
            have HU := Lib.hid (pvT_deep HP0.out H36.out (by rw [H91.out, H123.out]; rfl))
            have HR6 := Lib.hid hr6
            have HA6 := Lib.hid ha6
            have HF := Lib.hid (bx_four hx6 (.int .i64 0) (.string ⟨#[]⟩) (.slice none 0 0) (.slice none 0 0))
            obtain ⟨r0, r1, r2, r3, rf⟩ := hx6
            clear hr6 ha6
            go_wp2_with fail
            obtain ⟨k0, k1, k2, k3⟩ := HF.out
            refine bodyPost_ret (v := .tuple #[leaf 0 ⟨#[]⟩, .int .i64 4]) (by simp [results, Tryz.results194, go_sem, k0, k1, k2, k3, leaf]) rfl ?_
            rw [HU.out]
            exact list_none (er := 4) HH.out _ rfl HR6.out (Aw.of HA6.out) (by decide) (by decide) _ _ _ _ _
          | succ f =>
            have hd : decide ((12 : Int) < (dep : Int)) = false := decide_eq_false (by omega)
            have HU := Lib.hid (pvT_objS (f := f) HP0.out H36.out H91.out H123.out)
            have HT6 := takeSign_no 91 w6 hr6 H91.out
            have HX6 := Lib.hid hx6
            have HA6 := Lib.hid ha6
            have HR6 := Lib.hid hr6
            clear hr6 ha6 hx6
            go_wp2_with fail
            refine HT6.mono ?_
            rintro e w7 ⟨rfl, hb7⟩
            have hz7 := hb7.size
            have hr7 := HR6.out.below hb7
            have hx7 : Bx w7 w.heap.size := HX6.out.keep (hb7.block _ (by omega))
            have ha7 : Below w.heap.size w w7 := HA6.out.trans (hb7.mono (by omega))
            have hpos := ahead_pos hr7.hp H123.out
            have hr8 : Rv (w7.setCell ⟨R, 1, none⟩ (.int .i64 ((p : Int) + 1))) R a cap ts (p + 1) := hr7.setAt (q := p + 1) (by omega) (by omega)
            have hx8 : Bx (w7.setCell ⟨R, 1, none⟩ (.int .i64 ((p : Int) + 1))) w.heap.size := hx7.keep (Below.heap_setCell _ _ _ _ (by show w.heap.size ≠ R; omega))
            have ha8 : Aw R w.heap.size w (w7.setCell ⟨R, 1, none⟩ (.int .i64 ((p : Int) + 1))) := (Aw.of ha7).set _
            have hs8 : (w7.setCell ⟨R, 1, none⟩ (.int .i64 ((p : Int) + 1))).heap.size = w7.heap.size := by simp [World.setCell]
            have HR8 := Lib.hid hr8
            have HX8 := Lib.hid hx8
            have HA8 := Lib.hid ha8
            have HS8 := Lib.hid hs8
            have c1 := hr7.c1
            have fz := hr7.fz 1
            have hw : IntKind.i64.wrap ((p : Int) + 1) = (p : Int) + 1 := IntWalk.i64_in _ (by omega)
            clear hr7 hx7 ha7 hb7 hr8 hx8 ha8 hs8 HT6
            go_upto_region 15 with fail
            generalize w7.setCell ⟨R, 1, none⟩ (.int .i64 ((p : Int) + 1)) = w8 at *
            have hs8 := HS8.out
            have hlt := sg_ne H123.out
            have HL := vobject_any f dep (ahead ts p).length w8 HR8.out (by omega) (by rw [← ahead_tail]; exact hlt) (HI.out f rfl)
            rw [← ahead_tail] at HL
            clear hlt
            go_wp2_with fail
            refine HL.mono ?_
            intro e w9 hv
            obtain ⟨v, er, rfl, ⟨k, s, an, ln, cn, ap, lp, cp, rfl⟩, hblk, hfin⟩ := vis_on HH.out HR8.out HA8.out (by omega) hv
            have hx9 : Bx w9 w.heap.size := HX8.out.keep (hblk _ (by omega) (by omega))
            have HF := Lib.hid hfin
            obtain ⟨r0, r1, r2, r3, rf⟩ := hx9
            clear hblk hfin hv HL
            go_wp2_with fail
            refine bodyPost_ret (v := .tuple #[.agg #[.int .i64 k, .string s, .slice an ln cn, .slice ap lp cp], .int .i64 er]) (by simp [results, Tryz.results194, go_sem, r0, r1, r2, r3]) rfl ?_
            rw [HU.out]
            exact HF.out _ _ _ _
        · have h123 : sg (hdK (ahead ts p)) 123 = false := by simpa using h123
          rw [h123] at HI5
          have HU := Lib.hid (pvT_no (f := f) HP0.out H36.out H91.out h123)
          clear h123
          go_wp2_with fail
          refine HI5.mono ?_
          rintro e w6 ⟨rfl, hb6⟩
          have hz6 := hb6.size
          have HR6 := Lib.hid (HR5.out.below hb6)
          have HA6 : Hid (Below w.heap.size w w6) := Lib.hid (HA5.out.trans (hb6.mono (by omega)))
          have hx6 : Bx w6 w.heap.size := HX5.out.keep (hb6.block _ (by omega))
          have HF := Lib.hid (bx_four hx6 (.int .i64 0) (.string ⟨#[]⟩) (.slice none 0 0) (.slice none 0 0))
          obtain ⟨r0, r1, r2, r3, rf⟩ := hx6
          clear hb6 HI5 s0 s1 s2
          go_wp2_with fail
          obtain ⟨k0, k1, k2, k3⟩ := HF.out
          refine bodyPost_ret (v := .tuple #[leaf 0 ⟨#[]⟩, .int .i64 2]) (by simp [results, Tryz.results194, go_sem, k0, k1, k2, k3, leaf]) rfl ?_
          rw [HU.out]
          exact list_none (er := 2) HH.out _ rfl HR6.out (Aw.of HA6.out) (by decide) (by decide) _ _ _ _ _
  · -- a value by itself
    have HU := Lib.hid (pvT_plain (f := f) hp0)
    have hpl := plain_ne hp0
    have hpos : p < ts.length := by
      rw [List.length_tail] at hpl
      have : 0 < (ahead ts p).length := by omega
      rw [ahead_len] at this
      omega
    have hzt : (hdK (ahead ts p)).2.length ≤ 1000000 := by rw [← HT1.out]; exact hz
    have HRD := Lib.hid (fun (W : World) (D : Nat → Prop) => plain_rd W D f (hdK (ahead ts p)) hzt)
    have hk0 : ((plainV (hdK (ahead ts p))).k == 0) = false := beq_eq_false_iff_ne.2 hp0
    have HX2 := Lib.hid hx2
    have HN := Lib.hid (fun c0 c1 c2 c3 o => (NowV.four HH.out (ahead_tail ts p).symm (hr2.setAt (q := p + 1) (z := (p : Int) + 1) (by omega) (by omega)) ((Aw.of ha2).set (j := 1) (.int .i64 ((p : Int) + 1))) c0 c1 c2 c3).alloc o)
    have HF := Lib.hid (fun c0 c1 c2 c3 o => bx_fourA (hx2.keep (Below.heap_setCell w2 ⟨R, 1, none⟩ (.int .i64 ((p : Int) + 1)) w.heap.size (by show w.heap.size ≠ R; omega))) c0 c1 c2 c3 o)
    have c1 := hr2.c1
    have fz := hr2.fz 1
    have hw : IntKind.i64.wrap ((p : Int) + 1) = (p : Int) + 1 := IntWalk.i64_in _ (by omega)
    obtain ⟨r0, r1, r2, r3, rf⟩ := hx2
    generalize plainV (hdK (ahead ts p)) = x at *
    have hlt2 : w.heap.size < w2.heap.size := by omega
    have hRh : R ≠ w.heap.size := by omega
    clear hp0 hpl hr2 hk2 ha2 hb2 HP hzt
    unfold leafOf leaf at *
    go_wp2_with fail
    obtain ⟨k0, k1, k2, k3⟩ := HF.out (.int .i64 x.k) (.string x.s) (.slice none 0 0) (.slice none 0 0) (.cells #[.int .i64 x.k, .string x.s, .slice none 0 0, .slice none 0 0] 45)
    refine bodyPost_ret (v := .tuple #[.agg #[.int .i64 x.k, .string x.s, .slice none 0 0, .slice none 0 0], .int .i64 0]) (by simp [results, Tryz.results194, go_sem, k0, k1, k2, k3]) rfl ?_
    rw [HU.out]
    refine ⟨HN.out _ _ _ _ _, ?_⟩
    rw [if_pos rfl]
    exact ⟨_, rfl, HRD.out _ _⟩

theorem vvalue_any {R : Nat} {a : Option Addr} {cap : Nat} {ts : List Tk} : ∀ (f dep : Nat), dep + f = 13 → ValOkV R a cap ts f dep
  | 0, dep, h => vvalue_step 0 dep h (fun f' e => by omega)
  | f + 1, dep, h => vvalue_step (f + 1) dep h (fun f' e => by
      obtain rfl : f' = f := by omega
      exact vvalue_any f' (dep + 1) (by omega))

end Go.Proofs.YtibkncgfdhflgaaGreatDoor

/-
  What value.Value answers, from the first token on.
-/
namespace Go.Proofs.YtibkncgfdhflgaaGreatDoor
open Go.RowKit

set_option maxHeartbeats 1000000 in
theorem readerAt_zero (a : Option Addr) (n cap : Nat) (w : World) : Calls Tryz.prog 186 #[.slice a n cap, .int .i64 0] w fun e w' => e = .returned (.pointer (some ⟨w.heap.size, 0, none⟩)) ∧ w' = w.alloc (.cells #[.slice a n cap, .int .i64 0] 199) := by
  have hd : decide ((n : Int) < 0) = false := decide_eq_false (by omega)
  go_enter Tryz.func186, Tryz.ntmps186
  go_wp2_with fail
  go_ret
  exact ⟨rfl, rfl⟩

theorem ahead_zero (ts : List Tk) : ahead ts 0 = ts.map strip := by unfold ahead; rw [List.drop_zero]

theorem rv_new {w W : World} {a : Option Addr} {cap : Nat} {ts : List Tk} (hb : Below w.heap.size w W) (ht : TkAt w a ts) (hc : ts.length ≤ cap) (hs : ts.length ≤ 9000) (hz : ∀ t ∈ ts, t.s.length ≤ 1000000) : Rv (W.alloc (.cells #[.slice a ts.length cap, .int .i64 0] 199)) W.heap.size a cap ts 0 := by
  have hbk : (W.alloc (.cells #[.slice a ts.length cap, .int .i64 0] 199)).heap[W.heap.size]? = some (.cells #[.slice a ts.length cap, .int .i64 0] 199 (0, 0)) := heap_alloc_new _ _
  have hsz := hb.size
  refine ⟨Lib.cell_of_heap hbk 0, Lib.cell_of_heap hbk 1, fun j => by go_simp, Nat.zero_le _, hc, hs, hz, fun h0 => ?_⟩
  obtain ⟨g, e, hcell⟩ := ht h0
  obtain ⟨u, hu⟩ := tkCells_first h0
  have hg := cell_lt (hcell 0 u hu)
  refine ⟨g, e, by omega, fun j u hj => ?_⟩
  rw [World.cell?_of_block (a := ⟨g, j, none⟩) (Below.heap_alloc _ _ _ (by show g < W.heap.size; omega))]
  exact (World.cell?_of_block (a := ⟨g, j, none⟩) (hb.block g hg)).trans (hcell j u hj)

/-- What Value answers of a row of n tokens. -/
def ValAns (n : Nat) (w : World) (r : VR) (e : Ending) (w' : World) : Prop :=
  Below w.heap.size w w' ∧ ∃ v, e = .returned (.tuple #[v, .int .i64 ((n - r.2.1.length : Nat) : Int), .int .i64 r.2.2]) ∧ (∃ k s an ln cn ap lp cp, v = .agg #[.int .i64 k, .string s, .slice an ln cn, .slice ap lp cp]) ∧
    (if r.2.2 = 0 then RdD w' (fun b => w.heap.size ≤ b ∧ b < w'.heap.size) 13 r.1 v else v = leaf 0 ⟨#[]⟩)
theorem valAns_fin {w w2 W' : World} {er : Nat} {x : JV} {v : Value} (hfin : if er = 0 then RdD w2 (fun b => w.heap.size + 2 ≤ b ∧ b < w2.heap.size) 13 x v else v = leaf 0 ⟨#[]⟩) (hb : ∀ b, b < w2.heap.size → b ≠ w.heap.size → W'.heap[b]? = w2.heap[b]?) (hz : w2.heap.size ≤ W'.heap.size) :
    if er = 0 then RdD W' (fun b => w.heap.size ≤ b ∧ b < W'.heap.size) 13 x v else v = leaf 0 ⟨#[]⟩ := by
  by_cases he : er = 0
  · rw [if_pos he] at hfin ⊢
    exact RdD.step (fun b hd => ⟨by omega, by omega⟩) (fun b o hd => World.cell?_of_block (a := ⟨b, o, none⟩) (hb b hd.2 (by omega))) hfin
  · rw [if_neg he] at hfin ⊢
    exact hfin

set_option maxHeartbeats 4000000 in
set_option maxRecDepth 100000 in
theorem valValue_any {a : Option Addr} {cap : Nat} {ts : List Tk} (w : World) (ht : TkAt w a ts) (hc : ts.length ≤ cap) (hs : ts.length ≤ 9000) (hz : ∀ t ∈ ts, t.s.length ≤ 1000000) :
    Calls Tryz.prog 188 #[.slice a ts.length cap, .int .i64 0] w (ValAns ts.length w (pvT 12 (ts.map strip))) := by
  have hb0 : Below w.heap.size w (w.alloc (.cells #[.int .i64 0, .string ⟨#[]⟩, .slice none 0 0, .slice none 0 0] 45)) := (Below.refl _ w).alloc (Nat.le_refl _) _
  have HR := readerAt_zero a ts.length cap (w.alloc (.cells #[.int .i64 0, .string ⟨#[]⟩, .slice none 0 0, .slice none 0 0] 45))
  have hs0 : (w.alloc (.cells #[.int .i64 0, .string ⟨#[]⟩, .slice none 0 0, .slice none 0 0] 45)).heap.size = w.heap.size + 1 := by simp
  have hr := rv_new hb0 ht hc hs hz
  rw [hs0] at hr HR
  have hX : Bx ((w.alloc (.cells #[.int .i64 0, .string ⟨#[]⟩, .slice none 0 0, .slice none 0 0] 45)).alloc (.cells #[.slice a ts.length cap, .int .i64 0] 199)) w.heap.size := (Bx.new w).keep (Below.heap_alloc _ _ _ (by simp))
  have hb1 : Below w.heap.size w ((w.alloc (.cells #[.int .i64 0, .string ⟨#[]⟩, .slice none 0 0, .slice none 0 0] 45)).alloc (.cells #[.slice a ts.length cap, .int .i64 0] 199)) := hb0.alloc (by simp) _
  have hs1 : ((w.alloc (.cells #[.int .i64 0, .string ⟨#[]⟩, .slice none 0 0, .slice none 0 0] 45)).alloc (.cells #[.slice a ts.length cap, .int .i64 0] 199)).heap.size = w.heap.size + 2 := by simp
  have HV := vvalue_any (R := w.heap.size + 1) (a := a) (cap := cap) (ts := ts) 12 1 rfl 0 _ hr
  rw [ahead_zero] at HV
  clear hr hb0 hs0
  generalize pvT 12 (ts.map strip) = RV at *
  obtain ⟨x, l', er⟩ := RV
  go_enter Tryz.func188, Tryz.ntmps188
  go_wp2_with fail
  refine HR.mono ?_
  rintro e w1 ⟨rfl, rfl⟩
  go_wp2_with fail
  refine HV.mono ?_
  rintro e w2 ⟨⟨q, hl, hr, ha⟩, hv⟩
  dsimp only at hl hv
  have hz2 := ha.size
  rw [hs1] at hz2
  have hlt2 : w.heap.size < w2.heap.size := by omega
  have hx2 : Bx w2 w.heap.size := hX.keep (ha.block _ (by rw [hs1]; omega) (by omega))
  have ha2 : Below w.heap.size w w2 := hb1.trans ((ha.mono (by rw [hs1]; omega)).below (by omega))
  have hq : ts.length - l'.length = q := by
    have := hr.hp
    rw [← hl, ahead_len]; omega
  obtain ⟨v, rfl, ⟨k, s, an, ln, cn, ap, lp, cp, rfl⟩, hfin⟩ : ∃ v, e = .returned (.tuple #[v, .int .i64 er]) ∧ (∃ k s an ln cn ap lp cp, v = .agg #[.int .i64 k, .string s, .slice an ln cn, .slice ap lp cp]) ∧
      (if er = 0 then RdD w2 (fun b => w.heap.size + 2 ≤ b ∧ b < w2.heap.size) 13 x v else v = leaf 0 ⟨#[]⟩) := by
    by_cases he : er = 0
    · subst he
      rw [if_pos rfl] at hv
      obtain ⟨v, rfl, hR⟩ := hv
      have hs : ∃ k s an ln cn ap lp cp, v = .agg #[.int .i64 k, .string s, .slice an ln cn, .slice ap lp cp] := by
        obtain ⟨an, cn, ap, cp, e⟩ := hR.shape
        exact ⟨_, _, _, _, _, _, _, _, e⟩
      refine ⟨v, rfl, hs, ?_⟩
      rw [if_pos rfl]
      rw [hs1] at hR
      exact hR
    · rw [if_neg he] at hv
      refine ⟨_, hv.1, ⟨_, _, _, _, _, _, _, _, rfl⟩, ?_⟩
      rw [if_neg he]
  have HQ := Lib.hid hq
  have c1 := hr.c1
  have hRlt : w.heap.size + 1 < w2.heap.size := by omega
  have HF := Lib.hid (fun c0 c1 c2 c3 o => bx_fourA hx2 c0 c1 c2 c3 o)
  have HA := Lib.hid ha2
  have HFIN := Lib.hid hfin
  obtain ⟨r0, r1, r2, r3, rf⟩ := hx2
  clear hv hq ha ha2 hr hl HV HR hX hb1 hs1 hz2 hfin
  go_upto_region 3 with fail
  go_region
  all_goals
    go_wp2_with fail
    obtain ⟨k0, k1, k2, k3⟩ := HF.out (.int .i64 k) (.string s) (.slice an ln cn) (.slice ap lp cp) (.cells #[.int .i64 k, .string s, .slice an ln cn, .slice ap lp cp] 45)
    refine bodyPost_ret (v := .tuple #[.agg #[.int .i64 k, .string s, .slice an ln cn, .slice ap lp cp], .int .i64 q, .int .i64 er]) (by simp [results, Tryz.results188, go_sem, k0, k1, k2, k3]) rfl ?_
    refine ⟨below_drewN ((below_four HA.out (Nat.le_refl _) _ _ _ _).alloc (by rw [size_four]; omega) _) _, _, by rw [← HQ.out], ⟨_, _, _, _, _, _, _, _, rfl⟩, valAns_fin HFIN.out (fun b hb hne => ?_) ?_⟩
    · exact (Below.heap_alloc _ _ _ (by rw [size_four]; exact hb)).trans (heap_four _ _ _ _ _ _ b hne)
    · show w2.heap.size ≤ (World.alloc _ _).heap.size
      rw [show ∀ (W : World) (o : Obj), (W.alloc o).heap.size = W.heap.size + 1 from fun W o => by simp, size_four]
      omega

end Go.Proofs.YtibkncgfdhflgaaGreatDoor
