/-
  What refectorylaw02.Made answers where it makes a list or an object.
-/
import Derived.Test.YtkaboegjdalmeaaDoorMade3
import Derived.Test.YtkaboegjdalmeaaDoorCopy3
import Derived.Deep.Cut
import Derived.Deep.RegionLaw
import Derived.Deep.AppendLies
namespace Go.Proofs.YtkaboegjdalmeaaDoor
open Go.RowKit

theorem cell_four_new (w : World) (c0 c1 c2 c3 : Value) (t : TypeId) : ∀ j u, [c0, c1, c2, c3][j]? = some u → (w.alloc (.cells #[c0, c1, c2, c3] t)).cell? ((⟨w.heap.size, 0, none⟩ : Addr).add j) = some u := by
  intro j u hj
  rw [Go.WideShapes.add_plain, Nat.zero_add]
  have hb : (w.alloc (.cells #[c0, c1, c2, c3] t)).heap[w.heap.size]? = some (.cells #[c0, c1, c2, c3] t (0, 0)) := heap_alloc_new _ _
  rw [Lib.cell_of_heap hb j]
  rw [← hj, ← Array.getElem?_toList]

def MRel (w : World) (kk : Int) (dd n0 : Nat) (k : Nat) (vat vn : Value) (W : World) : Prop :=
  ∃ (j : Nat) (at1 : Nat) (ns : List ByteArray) (xs : List JV) (cs : List Value) (vN vL : Value), j = k ∧ vat = .int .i64 at1 ∧ at1 ≤ 100 ∧ vn = .int .i64 j ∧ j ≤ n0 ∧ xs.length = n0 - j ∧ ((kk = 7 ∧ ns = []) ∨ (kk = 8 ∧ ns = nmL n0 (n0 - j))) ∧ MSt w kk dd ns xs cs vN vL W

theorem IntsAt.below {w w' : World} {B : Nat} {a : Option Addr} {zs : List Int} (h : IntsAt w B a zs) (hb : Below B w w') : IntsAt w' B a zs := fun hp => by
  obtain ⟨b, off, e, hl, hc⟩ := h hp
  exact ⟨b, off, e, hl, fun i z hz => (hb.cell (p := ⟨b, off + i, none⟩) hl).trans (hc i z hz)⟩

theorem mst_init (w : World) (kk : Int) (dd : Nat) : MSt w kk dd [] [] [] (.slice none 0 0) (.slice none 0 0) ((w.alloc (.cells #[.int .i64 0, .string ⟨#[]⟩, .slice none 0 0, .slice none 0 0] 25)).alloc (.cells #[.int .i64 kk, .string ⟨#[]⟩, .slice none 0 0, .slice none 0 0] 25)) := by
  obtain ⟨W, hW⟩ : ∃ W, W = ((w.alloc (.cells #[.int .i64 0, .string ⟨#[]⟩, .slice none 0 0, .slice none 0 0] 25)).alloc (.cells #[.int .i64 kk, .string ⟨#[]⟩, .slice none 0 0, .slice none 0 0] 25)) := ⟨_, rfl⟩
  rw [← hW]
  have hb : Below w.heap.size w W := by
    rw [hW]
    exact ((Below.refl _ w).alloc (Nat.le_refl _) _).alloc (by simp) _
  have c1 : ∀ j, W.cell? ⟨w.heap.size + 1, j, none⟩ = (#[Value.int .i64 kk, .string ⟨#[]⟩, .slice none 0 0, .slice none 0 0] : Array Value)[j]? := fun j => by rw [hW]; go_simp
  have f1 : ∀ j, W.frozen? ⟨w.heap.size + 1, j, none⟩ = false := fun j => by rw [hW]; go_simp
  have c0 : ∀ j, W.cell? ⟨w.heap.size, j, none⟩ = (#[Value.int .i64 0, .string ⟨#[]⟩, .slice none 0 0, .slice none 0 0] : Array Value)[j]? := fun j => by rw [hW]; go_simp
  have f0 : ∀ j, W.frozen? ⟨w.heap.size, j, none⟩ = false := fun j => by rw [hW]; go_simp
  have hs : W.heap.size = w.heap.size + 2 := by rw [hW]; simp
  exact ⟨hb, by omega, c1 0, c1 1, c1 2, c1 3, f1, c0 0, c0 1, c0 2, c0 3, f0, World.ownsRow_nil _ _ _ _, World.ownsRow_nil _ _ _ _, (fun g e => by cases e), (fun i x hx => by simp at hx), (fun x hx => by cases hx)⟩

theorem MSt.boxL {w W W' : World} {kk : Int} {dd : Nat} {ns : List ByteArray} {xs : List JV} {cs : List Value} {vN vL : Value} (h : MSt w kk dd ns xs cs vN vL W) (hg : W.grownBy W' vL.ownBlock) :
    (∀ o, W'.cell? ⟨w.heap.size + 1, o, none⟩ = W.cell? ⟨w.heap.size + 1, o, none⟩) ∧ ∀ o, W'.frozen? ⟨w.heap.size + 1, o, none⟩ = false := by
  have hs := h.sz
  have hblk : W'.heap[w.heap.size + 1]? = W.heap[w.heap.size + 1]? := hg.block _ (by omega) (fun e => by
    have := (h.oL.lt (w.heap.size + 1) (by first | exact e | exact e.symm)).1; omega)
  exact ⟨fun o => World.cell?_of_block (a := ⟨w.heap.size + 1, o, none⟩) hblk, fun o => (World.frozen?_of_block (a := ⟨w.heap.size + 1, o, none⟩) hblk).trans (h.bf o)⟩
theorem MSt.boxN {w W W' : World} {kk : Int} {dd : Nat} {ns : List ByteArray} {xs : List JV} {cs : List Value} {vN vL : Value} (h : MSt w kk dd ns xs cs vN vL W) (hg : W.grownBy W' vN.ownBlock) :
    (∀ o, W'.cell? ⟨w.heap.size + 1, o, none⟩ = W.cell? ⟨w.heap.size + 1, o, none⟩) ∧ ∀ o, W'.frozen? ⟨w.heap.size + 1, o, none⟩ = false := by
  have hs := h.sz
  have hblk : W'.heap[w.heap.size + 1]? = W.heap[w.heap.size + 1]? := hg.block _ (by omega) (fun e => by
    have := (h.oN.lt (w.heap.size + 1) (by first | exact e | exact e.symm)).1; omega)
  exact ⟨fun o => World.cell?_of_block (a := ⟨w.heap.size + 1, o, none⟩) hblk, fun o => (World.frozen?_of_block (a := ⟨w.heap.size + 1, o, none⟩) hblk).trans (h.bf o)⟩

set_option maxHeartbeats 2000000 in
set_option maxRecDepth 100000 in
theorem made_many (kk : Int) (r : Int) (hkr : kk = 7 + r) (hkk : kk = 7 ∨ kk = 8) (dd n0 : Nat) (hdd : 1 ≤ dd) (hd5 : dd ≤ 5) (hn0 : n0 ≤ 3) (B : Nat) (a : Option Addr) (cap : Nat) (zs : List Int) (at0 u : Nat) (w : World) (hB : B ≤ w.heap.size) (hat : at0 ≤ 99) (h : at0 < zs.length) (hz : IntsAt w B a zs)
    (ih : ∀ (at1 : Nat) (W : World), at1 ≤ 100 → B ≤ W.heap.size → IntsAt W B a zs → Calls Tryd.prog 19 #[.slice a zs.length cap, .int .i64 at1, .int .i64 dd] W (MadeIs dd W))
    (hu : u < 1048576) (b off : Nat) (z : Int) (ha : a = some ⟨b, off, none⟩) (hb : b < w.heap.size) (hc : w.cell? ⟨b, off + at0, none⟩ = some (.int .i64 z)) (hp : ∀ W, Calls Tryd.prog 20 #[.int .i64 z, .int .i64 1048576] W fun e w' => e = .returned (.int .i64 (u : Int)) ∧ W = w')
    (q7 : (u : Int) % 7 = 4) (qm : (u : Int) / 7 % 2 = r) (qn : (u : Int) / 14 % 4 = n0) (D : Int) (hD : D = dd + 1) :
    Calls Tryd.prog 19 #[.slice a zs.length cap, .int .i64 at0, .int .i64 D] w (MadeIs (dd + 1) w) := by
  obtain ⟨i2, hi2, hz20, hz21, hz22⟩ := info_parts infoVal
  obtain ⟨i3, hi3, hz30, hz31, hz32⟩ := info_parts infoStr
  have HI := Lib.hid ih
  have HZ := Lib.hid hz
  have HR : Hid (7 + r = kk) := Lib.hid hkr.symm
  have hr : r = 0 ∨ r = 1 := by omega
  clear ih hz
  subst ha
  have d0 : decide (zs.length ≤ at0) = false := by simp; omega
  have d1 : decide (D ≤ 1) = false := by simp; omega
  have l1 : b < w.heap.size + 1 := by omega
  have hD1 : 2 ≤ D := by omega
  have hD2 : D ≤ 6 := by omega
  have HD := Lib.hid hD
  clear hD hkr
  have hr0 : 0 ≤ r := by omega
  have hr1 : r ≤ 1 := by omega
  clear hr
  have HK := Lib.hid hkk
  clear hkk
  go_enter Tryd.func19, Tryd.ntmps19
  go_wp2_with ((go_at_call 20); (with_reducible refine (hp _).mono ?_); rintro e w' ⟨rfl, rfl⟩)
  rw [HR.out]
  go_loopg [1, 11, 12, 13] n0 (fun k vat vn _ _ wr => MRel w kk dd n0 k vat vn wr)
  case atStart => exact ⟨n0, at0 + 1, [], [], [], _, _, rfl, by rfl, by omega, by rw [qn], Nat.le_refl _, by simp, by
    rcases HK.out with e | e
    · exact .inl ⟨e, rfl⟩
    · exact .inr ⟨e, by rw [Nat.sub_self]; rfl⟩, mst_init w kk dd⟩
  case round =>
    clear q7 qm qn d0 d1 hc hp
    obtain ⟨k, at1, ns, xs, cs, vN, vL, rfl, rfl, hat1, rfl, hk, hxl, hns, hm⟩ := hrel
    obtain ⟨aN, cN, rfl, hcN, _⟩ := fresh_row hm.oN
    obtain ⟨aL, cL, rfl, hcL, _⟩ := fresh_row hm.oL
    have HXL := Lib.hid hxl
    have HNS := Lib.hid hns
    clear hxl hns
    cases k with
    | zero =>
      have HM := Lib.hid hm
      have hs := hm.sz
      obtain ⟨_, _, b0, b1, b2, b3, bf, r0, r1, r2, r3, rf, _, _, _, _, _⟩ := hm
      go_wp2_with fail
      refine bodyPost_ret (v := .tuple #[.agg #[.int .i64 kk, .string ⟨#[]⟩, (.slice aN ns.length cN), (.slice aL xs.length cL)], .int .i64 at1]) (by simp [results, Tryd.results19, go_sem, r0, r1, r2, r3]) rfl ?_
      refine HM.out.done (n := n0) hn0 (by have := HXL.out; omega) ?_ at1 hat1 ?_ ?_ ?_
      · rcases HNS.out with e | ⟨e, e2⟩
        · exact .inl e
        · exact .inr ⟨e, by rw [e2, Nat.sub_zero]⟩
      · intro b o hne
        rw [World.cell?_setCell_other _ _ _ _ (by intro e; injection e with e _; omega), World.cell?_setCell_other _ _ _ _ (by intro e; injection e with e _; omega), World.cell?_setCell_other _ _ _ _ (by intro e; injection e with e _; omega), World.cell?_setCell_other _ _ _ _ (by intro e; injection e with e _; omega)]
      · simp [World.setCell]
      · exact ((((Below.refl _ _).setCell (p := ⟨w.heap.size, 0, none⟩) (Nat.le_refl _) _).setCell (p := ⟨w.heap.size, 1, none⟩) (Nat.le_refl _) _).setCell (p := ⟨w.heap.size, 2, none⟩) (Nat.le_refl _) _).setCell (p := ⟨w.heap.size, 3, none⟩) (Nat.le_refl _) _
    | succ k =>
      have hs := hm.sz
      have hwr : B ≤ wr.heap.size := by omega
      have HC : Hid (Calls Tryd.prog 19 #[.slice (some ⟨b, off, none⟩) zs.length cap, .int .i64 at1, .int .i64 (D - 1)] wr (MadeIs dd wr)) := Lib.hid (by
        rw [show D - 1 = (dd : Int) by have := HD.out; omega]
        exact HI.out at1 wr hat1 hwr (HZ.out.below (hm.below.mono hB)))
      have HM := Lib.hid hm
      clear hm
      have hnl : ns.length ≤ 3 := by
        rcases HNS.out with ⟨_, e⟩ | ⟨_, e⟩
        · rw [e]; simp
        · rw [e, nmL_len]; omega
      go_upto_region 22 with ((go_at_call 19); (with_reducible refine HC.out.mono ?_); rintro e w1 ⟨x, v, at2, rfl, hat2, hR, hck, htx, hb1⟩; obtain ⟨an, cn, ap, cp, rfl⟩ := hR.shape)
      have hm1 := HM.out.grow hb1
      have hz1 : w.heap.size + 1 < w1.heap.size := by have := hm1.sz; omega
      have hz1' : w.heap.size + 1 < w1.heap.size + 1 := by omega
      have hx1 := RdD.step (D' := MD w w1 (.slice aN ns.length cN) (.slice aL xs.length cL)) (fun b hd => HM.out.fresh (W' := w1) b hd) (fun _ _ _ => rfl) hR
      obtain ⟨W2, hW2⟩ : ∃ W2, W2 = ((w1.alloc (.cells #[.int .i64 x.k, .string x.s, .slice an x.ns.length cn, .slice ap x.ps.length cp] 25)).alloc (.cells #[.int .i64 x.k, .string x.s, .slice an x.ns.length cn, .slice ap x.ps.length cp] 25)) := ⟨_, rfl⟩
      have hb2 : Below w1.heap.size w1 W2 := by
        rw [hW2]
        exact ((Below.refl _ w1).alloc (Nat.le_refl _) _).alloc (by simp) _
      have hs2 : w1.heap.size + 1 + 1 = W2.heap.size := by rw [hW2]; simp
      have HS2 := Lib.hid hs2
      clear hs2
      have hm2 := hm1.grow hb2
      have hx2 := RdD.step (w' := W2) (D' := MD w W2 (.slice aN ns.length cN) (.slice aL xs.length cL)) (fun b hd => ⟨hd.1, Nat.lt_of_lt_of_le hd.2.1 hb2.size, hd.2.2⟩) (fun b o hd => hb2.cell (p := ⟨b, o, none⟩) hd.2.1) hx1
      have b3 := hm1.b3
      have hxl3 : xs.length ≤ 3 := by have := HXL.out; omega
      have HM1 := Lib.hid hm1
      have HM2 := Lib.hid hm2
      have HX2 := Lib.hid hx2
      have HW2 := Lib.hid hW2
      clear hm1 hm2 hx2 hx1 hW2 hR
      go_wp2_with (at_builtin; refine wpList_append_own_at _ rfl _ _ 23 rfl (w.heap.size + 2) 25 i2 (.agg #[.int .i64 0, .string ⟨#[]⟩, .slice none 0 0, .slice none 0 0]) 4 72 Tryd.underlying23 hi2 hz20 hz21 hz22 rfl (by decide) (.slice aL xs.length cL) xs.length cs rfl ((HM1.out.oL.alloc _).alloc _) ⟨w1.heap.size + 1, 0, none⟩ 1 1 [.int .i64 x.k, .string x.s, .slice an x.ns.length cn, .slice ap x.ps.length cp] rfl rfl ?c1 ?c2 (by unfold maxLen; omega) (by omega) (by simp; omega) ?_)
      case c1 =>
        have := cell_four_new (w1.alloc (.cells #[.int .i64 x.k, .string x.s, .slice an x.ns.length cn, .slice ap x.ps.length cp] 25)) (.int .i64 x.k) (.string x.s) (.slice an x.ns.length cn) (.slice ap x.ps.length cp) 25
        simpa using this
      case c2 =>
        intro u hu
        simp at hu
        rcases hu with rfl | rfl | rfl | rfl <;> rfl
      intro v7 w7 hown7 hg7 _ hlie7
      rw [← HW2.out] at hg7
      rw [HS2.out] at hlie7
      have hm3 := HM2.out.list HX2.out ⟨hck, htx⟩ hown7 hg7 hlie7
      obtain ⟨c7, f7⟩ := HM2.out.boxL hg7
      have e7 : w7.cell? ⟨w.heap.size + 1, 3, none⟩ = some (.slice aL xs.length cL) := (c7 3).trans HM2.out.b3
      obtain ⟨a7, cap7, rfl, _, _⟩ := fresh_row hown7
      have HM3 := Lib.hid hm3
      clear hm3 c7 hlie7 hg7 hown7 HM2 HX2 HW2 HM1 b3 hck htx hb2 hb1 HC HM
      go_upto_region 23 with fail
      generalize w7.setCell ⟨w.heap.size + 1, 3, none⟩ (.slice a7 (xs.length + 1) cap7) = W4 at *
      have b0 := HM3.out.b0
      have b2 := HM3.out.b2
      have hz4 : w.heap.size + 1 < W4.heap.size := by have := HM3.out.sz; omega
      clear e7 f7 hz1 hz1'
      rcases HK.out with e | e
      · subst e
        have hns : ns = [] := by
          rcases HNS.out with ⟨_, e⟩ | ⟨e, _⟩
          · exact e
          · cases e
        have HE := Lib.hid hns
        clear hns
        go_wp2_with fail
        go_roundg k
        case measure => omega
        case rel => exact ⟨k, at2, ns, xs ++ [x], _, _, _, rfl, rfl, hat2, by go_num, by omega, by rw [List.length_append, List.length_singleton]; have := HXL.out; omega, .inl ⟨rfl, HE.out⟩, HM3.out⟩
      · subst e
        have hns : ns = nmL n0 (n0 - (k + 1)) := by
          rcases HNS.out with ⟨e, _⟩ | ⟨_, e⟩
          · cases e
          · exact e
        have HE := Lib.hid hns
        clear hns
        have hk10 : k + 1 < 10 := by omega
        have hdig : ∀ W, Calls Tryd.prog 21 #[.int .i64 ((k : Int) + 1)] W fun e w' => e = .returned (.string ⟨#[dch (k + 1)]⟩) ∧ w' = W := fun W => digit1 (k + 1) W hk10
        go_upto_region 24 with fail
        have hS : (({ data := #[110] } : ByteArray) ++ { data := #[dch (k + 1)] }) = nmS (k + 1) := by
          apply ByteArray.ext
          rw [ByteArray.data_append]
          rfl
        obtain ⟨W5, hW5⟩ : ∃ W5, W5 = (W4.alloc (.cells #[.string (({ data := #[110] } : ByteArray) ++ { data := #[dch (k + 1)] })] 9)).drew := ⟨_, rfl⟩
        have hb5 : Below W4.heap.size W4 W5 := by
          rw [hW5]
          exact ((Below.refl _ W4).alloc (Nat.le_refl _) _).drew
        have hm5 := HM3.out.grow hb5
        have hs5 : W5.heap.size = W4.heap.size + 1 := by
          rw [hW5]
          show (W4.alloc _).heap.size = _
          simp
        have hn5 : ∀ j u, [Value.string (nmS (k + 1))][j]? = some u → W5.cell? ((⟨W4.heap.size, 0, none⟩ : Addr).add j) = some u := by
          have := cell_one_new W4 (.string (nmS (k + 1))) 9
          rw [hW5, hS]
          exact this
        have h15 : ∀ u ∈ [Value.string (nmS (k + 1))], u.oneCell' = true := by
          intro u hu
          simp at hu
          subst hu
          rfl
        have hz5 : w.heap.size + 2 ≤ W5.heap.size := hm5.sz
        have HM5 := Lib.hid hm5
        have HS5 := Lib.hid hs5
        have HN5 := Lib.hid hn5
        have H15 := Lib.hid h15
        have HZ5 := Lib.hid hz5
        have HW5 := Lib.hid hW5
        clear hm5 hs5 hn5 h15 hz5 hb5 hW5 hS
        go_region_law (first
          | (rw [← HW5.out]; refine step_append_lies _ rfl (.tmp 109) (.tmp 113) 22 rfl (w.heap.size + 2) 9 i3 (.string ⟨#[]⟩) 1 16 Tryd.underlying22 hi3 hz30 hz31 hz32 rfl (by decide) (.slice aN ns.length cN) ns.length (ns.map Value.string) (by simp [Act.eval]) HM5.out.oN ⟨W4.heap.size, 0, none⟩ 1 1 [.string (nmS (k + 1))] (by simp [Act.eval]) rfl HN5.out H15.out (by decide) (by unfold maxLen; omega) (by omega) HZ5.out (W4.heap.size + 1) HS5.out ?_; intro g8 cap8 w8 hown8 hg8 hlie8 hl8; obtain ⟨c8, f8⟩ := HM5.out.boxN hg8; have e8 := (c8 2).trans HM5.out.b2; clear c8)
          | (go_simp; (go_at_call 21); (refine (hdig _).mono ?_); rintro e w' ⟨rfl, rfl⟩))
        all_goals (
          have hm8 := HM5.out.name hown8 hg8 (by
            rcases hlie8 with e | e
            · exact .inl e.symm
            · exact .inr (by rw [HS5.out, e]; rfl))
          clear hlie8 hg8 hown8 HM5 HM3
          go_wp2_with fail
          go_roundg k
          case measure => omega
          case rel => exact ⟨k, at2, ns ++ [nmS (k + 1)], xs ++ [x], _, _, _, rfl, rfl, hat2, by go_num, by omega, by rw [List.length_append, List.length_singleton]; have := HXL.out; omega, .inr ⟨rfl, by
            rw [HE.out, show n0 - k = (n0 - (k + 1)) + 1 by omega]
            unfold nmL
            rw [show n0 - (n0 - (k + 1)) = k + 1 by omega]
            cases (n0 - (k + 1)) <;> rfl⟩, hm8⟩)

end Go.Proofs.YtkaboegjdalmeaaDoor
