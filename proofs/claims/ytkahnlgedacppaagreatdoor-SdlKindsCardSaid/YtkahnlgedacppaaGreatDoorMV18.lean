/-
  value's reader: types.
-/
import Derived.Test.YtkahnlgedacppaaGreatDoorMV3
import Derived.Test.YtkahnlgedacppaaGreatDoorMDm
import Derived.Test.YtkahnlgedacppaaGreatDoorMV10
import Derived.Test.YtkahnlgedacppaaGreatDoorMShelf
import Derived.Shelf.Strings.SlTrimAscii
import Derived.Lib.Repeat
namespace Go.Proofs.YtkahnlgedacppaaGreatDoor
open Go.RowKit

theorem NowV.refl {R : Nat} {a : Option Addr} {cap : Nat} {ts : List Tk} {p : Nat} {w w' : World} (h : Rv w R a cap ts p) (hb : Below w.heap.size w w') : NowV R a cap ts w (ahead ts p) w' := ⟨p, rfl, h.below hb, Aw.of hb⟩

set_option maxHeartbeats 1000000 in
theorem bang_any {R : Nat} {a : Option Addr} {cap : Nat} {ts : List Tk} {p : Nat} (w : World) (h : Rv w R a cap ts p) :
    Calls Tryz.prog 319 #[.pointer (some ⟨R, 0, none⟩)] w fun e w' => e = .returned (.string ⟨(bangP (ahead ts p)).1.toArray⟩) ∧ NowV R a cap ts w (bangP (ahead ts p)).2 w' := by
  by_cases hs : sg (hdK (ahead ts p)) 33 = true
  · have HT := takeSign_yes 33 w h hs
    have HU := Lib.hid (show bangP (ahead ts p) = ([33], (ahead ts p).tail) by unfold bangP; rw [if_pos hs])
    clear hs
    go_enter Tryz.func319, Tryz.ntmps319
    go_wp2_with fail
    refine HT.mono ?_
    rintro e w1 ⟨rfl, hn⟩
    have HN := Lib.hid hn
    clear hn HT
    go_wp2_with fail
    go_ret
    rw [HU.out]
    exact ⟨rfl, HN.out⟩
  · have hs : sg (hdK (ahead ts p)) 33 = false := by simpa using hs
    have HT := takeSign_no 33 w h hs
    have HU := Lib.hid (bang_no hs)
    clear hs
    go_enter Tryz.func319, Tryz.ntmps319
    go_wp2_with fail
    refine HT.mono ?_
    rintro e w1 ⟨rfl, hb⟩
    have HN := Lib.hid (NowV.refl h hb)
    clear hb HT
    go_wp2_with fail
    go_ret
    rw [HU.out]
    exact ⟨rfl, HN.out⟩

/-- The box of a type, as it is laid. -/
structure Bt (W : World) (B : Nat) : Prop where
  r0 : W.cell? ⟨B, 0, none⟩ = some (.string ⟨#[]⟩)
  r1 : W.cell? ⟨B, 1, none⟩ = some (.string ⟨#[]⟩)
  rf : ∀ j, W.frozen? ⟨B, j, none⟩ = false
theorem Bt.new (w : World) : Bt (w.alloc (.cells #[.string ⟨#[]⟩, .string ⟨#[]⟩] 47)) w.heap.size := by
  have hb : (w.alloc (.cells #[.string ⟨#[]⟩, .string ⟨#[]⟩] 47)).heap[w.heap.size]? = some (.cells #[.string ⟨#[]⟩, .string ⟨#[]⟩] 47 (0, 0)) := heap_alloc_new _ _
  exact ⟨Lib.cell_of_heap hb 0, Lib.cell_of_heap hb 1, fun j => by go_simp⟩
theorem Bt.keep {W W' : World} {B : Nat} (h : Bt W B) (hb : W'.heap[B]? = W.heap[B]?) : Bt W' B := by
  have c : ∀ o, W'.cell? ⟨B, o, none⟩ = W.cell? ⟨B, o, none⟩ := fun o => World.cell?_of_block (a := ⟨B, o, none⟩) hb
  exact ⟨(c 0).trans h.r0, (c 1).trans h.r1, fun j => (World.frozen?_of_block (a := ⟨B, j, none⟩) hb).trans (h.rf j)⟩
theorem heap_two (W : World) (B : Nat) (c0 c1 : Value) (k : Nat) (h : k ≠ B) : ((W.setCell ⟨B, 0, none⟩ c0).setCell ⟨B, 1, none⟩ c1).heap[k]? = W.heap[k]? := by
  rw [Below.heap_setCell _ _ _ _ h, Below.heap_setCell _ _ _ _ h]
theorem size_two (W : World) (B : Nat) (c0 c1 : Value) : ((W.setCell ⟨B, 0, none⟩ c0).setCell ⟨B, 1, none⟩ c1).heap.size = W.heap.size := by simp [World.setCell]
theorem Bt.two {W : World} {B : Nat} (h : Bt W B) (c0 c1 : Value) : ((W.setCell ⟨B, 0, none⟩ c0).setCell ⟨B, 1, none⟩ c1).cell? ⟨B, 0, none⟩ = some c0 ∧ ((W.setCell ⟨B, 0, none⟩ c0).setCell ⟨B, 1, none⟩ c1).cell? ⟨B, 1, none⟩ = some c1 := by
  obtain ⟨r0, r1, _⟩ := h
  refine ⟨?_, ?_⟩ <;> simp [go_sem, r0, r1]
theorem Rv.two {w : World} {R : Nat} {a : Option Addr} {cap : Nat} {ts : List Tk} {p : Nat} (h : Rv w R a cap ts p) {B : Nat} (hR : R ≠ B) (hg : ∀ g o, a = some ⟨g, o, none⟩ → 0 < ts.length → g ≠ B) (c0 c1 : Value) : Rv ((w.setCell ⟨B, 0, none⟩ c0).setCell ⟨B, 1, none⟩ c1) R a cap ts p :=
  h.keepT (heap_two _ _ _ _ R hR) (fun g o e h0 => heap_two _ _ _ _ g (hg g o e h0))

/-- What typeOf answers. -/
def TyIs (R : Nat) (a : Option Addr) (cap : Nat) (ts : List Tk) (w : World) (o : Option (List UInt8 × List UInt8 × List Sk)) (e : Ending) (w' : World) : Prop :=
  match o with
  | none => e = .returned (.tuple #[.agg #[.string ⟨#[]⟩, .string ⟨#[]⟩], .bool false]) ∧ Aw R w.heap.size w w'
  | some (n, ws, r) => e = .returned (.tuple #[.agg #[.string ⟨n.toArray⟩, .string ⟨ws.toArray⟩], .bool true]) ∧ NowV R a cap ts w r w'

/-- The first loop: so many lists have begun. -/
def OpRel (R : Nat) (a : Option Addr) (cap : Nat) (ts : List Tk) (w0 : World) (L : List Sk) (v4 : Value) (wr : World) : Prop :=
  ∃ j q : Nat, j ≤ 12 ∧ v4 = .int .i64 j ∧ Rv wr R a cap ts q ∧ Aw R w0.heap.size w0 wr ∧ Hid (opensN 12 L = j + opensN (12 - j) (ahead ts q)) ∧ Hid (opensL 12 L = opensL (12 - j) (ahead ts q))
/-- The second loop: so many have ended. -/
def EndRel (R : Nat) (a : Option Addr) (cap : Nat) (ts : List Tk) (w0 : World) (m : Nat) (RES : Option (List UInt8 × List Sk)) (v7 v27 : Value) (wr : World) : Prop :=
  ∃ (i q : Nat) (S : ByteArray), i ≤ m ∧ v27 = .int .i64 i ∧ v7 = .string S ∧ S.size ≤ 2 * i + 1 ∧ Rv wr R a cap ts q ∧ Aw R w0.heap.size w0 wr ∧ Hid (tyEnds (m - i) (ahead ts q) (vbl S) = RES)

theorem of_vbl {S : ByteArray} {l : List UInt8} (h : vbl S = l) : S = ⟨l.toArray⟩ := by subst h; rfl
theorem bang_len (l : List Sk) : (bangP l).1.length ≤ 1 := by
  unfold bangP
  split
  · exact Nat.le_refl 1
  · exact Nat.zero_le 1
theorem vbl_append' (a b : ByteArray) : vbl (a ++ b) = vbl a ++ vbl b := by
  unfold vbl
  rw [ByteArray.data_append, Array.toList_append]

set_option maxHeartbeats 8000000 in
set_option maxRecDepth 100000 in
theorem typeOf_any {R : Nat} {a : Option Addr} {cap : Nat} {ts : List Tk} {p : Nat} (w : World) (h : Rv w R a cap ts p) :
    Calls Tryz.prog 284 #[.pointer (some ⟨R, 0, none⟩)] w (TyIs R a cap ts w (typeP (ahead ts p))) := by
  have HH := Lib.hid h
  have hRlt := h.lt
  have hA := h.alloc (.cells #[.string ⟨#[]⟩, .string ⟨#[]⟩] 47)
  have HX0 := Lib.hid (Bt.new w)
  have hb0 : Below w.heap.size w (w.alloc (.cells #[.string ⟨#[]⟩, .string ⟨#[]⟩] 47)) := (Below.refl _ w).alloc (Nat.le_refl _) _
  have hz0 : (w.alloc (.cells #[.string ⟨#[]⟩, .string ⟨#[]⟩] 47)).heap.size = w.heap.size + 1 := by simp
  have HA0 := Lib.hid hA
  have HB0 := Lib.hid hb0
  have HZ0 := Lib.hid hz0
  -- what the first world's box gives later ones
  have HBX : ∀ W, Aw R (w.alloc (.cells #[.string ⟨#[]⟩, .string ⟨#[]⟩] 47)).heap.size (w.alloc (.cells #[.string ⟨#[]⟩, .string ⟨#[]⟩] 47)) W → Bt W w.heap.size ∧ Aw R w.heap.size w W ∧ w.heap.size + 1 ≤ W.heap.size := fun W hW => ⟨HX0.out.keep (hW.block _ (by rw [HZ0.out]; omega) (by omega)), (Aw.of HB0.out).trans (hW.mono (by rw [HZ0.out]; omega)), by have := hW.size; rw [HZ0.out] at this; exact this⟩
  have HBX := Lib.hid HBX
  have HTP := Lib.hid (show typeP (ahead ts p) = if (hdK (opensL 12 (ahead ts p))).1 = 1 then (tyEnds (opensN 12 (ahead ts p)) (bangP (opensL 12 (ahead ts p)).tail).2 (bangP (opensL 12 (ahead ts p)).tail).1).map fun q => ((hdK (opensL 12 (ahead ts p))).2, q.1, q.2) else none from rfl)
  clear h hA hb0 hz0
  generalize hL : ahead ts p = L at *
  have HL := Lib.hid hL
  clear hL
  generalize typeP L = RES at *
  go_enter Tryz.func284, Tryz.ntmps284
  go_wp2_with fail
  go_loopw [4] (fun v4 wr => OpRel R a cap ts (w.alloc (.cells #[.string ⟨#[]⟩, .string ⟨#[]⟩] 47)) L v4 wr) (fun v4 _ => 12 - (intOf v4).toNat)
  case atStart => exact ⟨0, p, by omega, rfl, HA0.out, Aw.refl _ _ _, Lib.hid (by rw [HL.out, Nat.zero_add]), Lib.hid (by rw [HL.out])⟩
  case round =>
    obtain ⟨j, q, hj, rfl, hr, haw, HN, HM⟩ := hrel
    have HR := Lib.hid hr
    by_cases hgo : j < 12 ∧ sg (hdK (ahead ts q)) 91 = true
    · have hd : decide ((j : Int) < 12) = true := decide_eq_true (by omega)
      have HT := takeSign_yes 91 wr hr hgo.2
      have HN2 := Lib.hid (show opensN 12 L = (j + 1) + opensN (12 - (j + 1)) (ahead ts q).tail by
        rw [HN.out, show 12 - j = (12 - (j + 1)) + 1 by omega]
        show j + (if sg (hdK (ahead ts q)) 91 = true then _ else 0) = _
        rw [if_pos hgo.2]; omega)
      have HM2 := Lib.hid (show opensL 12 L = opensL (12 - (j + 1)) (ahead ts q).tail by
        rw [HM.out, show 12 - j = (12 - (j + 1)) + 1 by omega]
        show (if sg (hdK (ahead ts q)) 91 = true then _ else _) = _
        rw [if_pos hgo.2])
      have hj12 := hgo.1
      clear hgo hr HN HM
      go_wp2_with fail
      refine HT.mono ?_
      rintro e w1 ⟨rfl, q1, hl1, hr1, ha1⟩
      have HL1 := Lib.hid hl1
      have HAW := Lib.hid (haw.trans (ha1.mono haw.size))
      clear hl1 ha1 haw HT
      go_wp2_with fail
      go_roundw
      case rel => exact ⟨j + 1, q1, by omega, by go_num, hr1, HAW.out, Lib.hid (by rw [HL1.out]; exact HN2.out), Lib.hid (by rw [HL1.out]; exact HM2.out)⟩
      case measure => simp [intOf]; omega
    · -- no more lists begin: the rest, from wr or from the world behind the last look
      have HN2 := Lib.hid (show opensN 12 L = j ∧ opensL 12 L = ahead ts q by
        rw [HN.out, HM.out]
        by_cases h12 : j = 12
        · subst h12; exact ⟨rfl, rfl⟩
        · have hsf : sg (hdK (ahead ts q)) 91 = false := by
            cases hx : sg (hdK (ahead ts q)) 91 with
            | false => rfl
            | true => exact absurd ⟨by omega, hx⟩ hgo
          rw [show 12 - j = (12 - (j + 1)) + 1 by omega]
          refine ⟨?_, ?_⟩
          · show j + (if sg (hdK (ahead ts q)) 91 = true then _ else 0) = _
            rw [if_neg (by rw [hsf]; decide)]; omega
          · show (if sg (hdK (ahead ts q)) 91 = true then _ else _) = _
            rw [if_neg (by rw [hsf]; decide)])
      have HRES := Lib.hid (show RES = if (hdK (ahead ts q)).1 = 1 then (tyEnds j (bangP (ahead ts q).tail).2 (bangP (ahead ts q).tail).1).map fun z => ((hdK (ahead ts q)).2, z.1, z.2) else none by rw [HTP.out, HN2.out.1, HN2.out.2])
      have HREST : ∀ W, Rv W R a cap ts q → Aw R (w.alloc (.cells #[.string ⟨#[]⟩, .string ⟨#[]⟩] 47)).heap.size (w.alloc (.cells #[.string ⟨#[]⟩, .string ⟨#[]⟩] 47)) W → True := fun _ _ _ => trivial
      clear HREST HTP
      by_cases h12 : j < 12
      · have hd : decide ((j : Int) < 12) = true := decide_eq_true (by omega)
        have hsf : sg (hdK (ahead ts q)) 91 = false := by
          cases hx : sg (hdK (ahead ts q)) 91 with
          | false => rfl
          | true => exact absurd ⟨by omega, hx⟩ hgo
        have HT := takeSign_no 91 wr hr hsf
        clear hgo hsf hr HN HM
        go_wp2_with fail
        refine HT.mono ?_
        rintro e wk ⟨rfl, hbk⟩
        have hrk := HR.out.below hbk
        have hak := haw.trans (Aw.of (hbk.mono haw.size))
        clear HT hbk HR haw
        by_cases h1 : (hdK (ahead ts q)).1 = 1
        · have HT1 := takeName_yes wk hrk h1
          have HRES1 := Lib.hid (show RES = (tyEnds j (bangP (ahead ts q).tail).2 (bangP (ahead ts q).tail).1).map fun z => ((hdK (ahead ts q)).2, z.1, z.2) by rw [HRES.out, if_pos h1])
          clear h1 HRES hrk
          go_wp2_with fail
          refine HT1.mono ?_
          rintro e w2 ⟨rfl, hzn, q2, hl2, hr2, ha2⟩
          have hb2 := bang_any w2 hr2
          rw [hl2] at hb2
          have ha02 := hak.trans (ha2.mono hak.size)
          have hbl := bang_len (ahead ts q).tail
          generalize (hdK (ahead ts q)).2 = nm at *
          generalize bangP (ahead ts q).tail = BP at *
          obtain ⟨bw, bl⟩ := BP
          have HA02 := Lib.hid ha02
          clear HT1 hl2 hr2 ha2 ha02 hak
          go_wp2_with fail
          refine hb2.mono ?_
          rintro e w3 ⟨rfl, q3, hl3, hr3, ha3⟩
          have HA03 := Lib.hid (HA02.out.trans (ha3.mono HA02.out.size))
          have HR3 := Lib.hid hr3
          have HL3 := Lib.hid hl3
          clear hb2 hl3 hr3 ha3
          go_wp2_with fail
          go_loopw [7, 27] (fun v7 v27 wr2 => EndRel R a cap ts (w.alloc (.cells #[.string ⟨#[]⟩, .string ⟨#[]⟩] 47)) j (tyEnds j bl bw) v7 v27 wr2) (fun _ v27 _ => j - (intOf v27).toNat)
          case atStart => exact ⟨0, q3, _, by omega, rfl, rfl, by show bw.length ≤ 2 * 0 + 1; have h : bw.length ≤ 1 := hbl; omega, HR3.out, HA03.out, Lib.hid (by rw [HL3.out]; rfl)⟩
          case round =>
            obtain ⟨i, q4, S, hi, rfl, rfl, hS, hr4, ha4, HE⟩ := hrel
            by_cases hij : i < j
            · have hdi : decide ((i : Int) < (j : Int)) = true := decide_eq_true (by omega)
              by_cases h93 : sg (hdK (ahead ts q4)) 93 = true
              · have HT4 := takeSign_yes 93 _ hr4 h93
                have HE2 := Lib.hid (show tyEnds j bl bw = tyEnds (j - (i + 1)) (bangP (ahead ts q4).tail).2 (vbl S ++ (93 :: (bangP (ahead ts q4).tail).1)) by
                  rw [← HE.out, show j - i = (j - (i + 1)) + 1 by omega, tyEnds, if_pos h93])
                clear h93 hr4 HE
                go_wp2_with fail
                refine HT4.mono ?_
                rintro e w5 ⟨rfl, q5, hl5, hr5, ha5⟩
                have hb5 := bang_any w5 hr5
                rw [hl5] at hb5
                have hbl5 := bang_len (ahead ts q4).tail
                generalize bangP (ahead ts q4).tail = BQ at *
                obtain ⟨bw5, bl5⟩ := BQ
                have HA05 := Lib.hid (ha4.trans (ha5.mono ha4.size))
                have hz5 : (⟨bw5.toArray⟩ : ByteArray).size ≤ 1 := hbl5
                have hz6 : (⟨#[93]⟩ ++ ⟨bw5.toArray⟩ : ByteArray).size ≤ 2 := by rw [ByteArray.size_append]; show 1 + _ ≤ 2; omega
                clear HT4 hl5 hr5 ha5 ha4
                go_wp2_with fail
                refine hb5.mono ?_
                rintro e w6 ⟨rfl, q6, hl6, hr6, ha6⟩
                have HA06 := Lib.hid (HA05.out.trans (ha6.mono HA05.out.size))
                have HR6 := Lib.hid hr6
                have HL6 := Lib.hid hl6
                clear hb5 hl6 hr6 ha6
                go_wp2_with fail
                go_roundw
                case rel =>
                  refine ⟨i + 1, q6, _, by omega, by go_num, rfl, ?_, HR6.out, HA06.out, Lib.hid ?_⟩
                  · rw [ByteArray.size_append]; omega
                  · rw [HL6.out, vbl_append', vbl_append']; exact HE2.out.symm
                case measure => simp [intOf]; omega
              · have h93 : sg (hdK (ahead ts q4)) 93 = false := by simpa using h93
                have HT4 := takeSign_no 93 _ hr4 h93
                have HE2 := Lib.hid (show RES = none by
                  rw [HRES1.out, ← HE.out, show j - i = (j - (i + 1)) + 1 by omega, tyEnds, if_neg (by rw [h93]; decide)]; rfl)
                clear h93 hr4 HE
                go_wp2_with fail
                refine HT4.mono ?_
                rintro e w5 ⟨rfl, hb5⟩
                obtain ⟨hx5, ha5, hz5⟩ := HBX.out _ (ha4.trans (Aw.of (hb5.mono ha4.size)))
                have HA5 := Lib.hid ha5
                have HF := Lib.hid (hx5.two (.string ⟨#[]⟩) (.string ⟨#[]⟩))
                obtain ⟨r0, r1, rf⟩ := hx5
                clear HT4 hb5 ha4 ha5
                go_wp2_with fail
                obtain ⟨k0, k1⟩ := HF.out
                refine bodyPost_ret (v := .tuple #[.agg #[.string ⟨#[]⟩, .string ⟨#[]⟩], .bool false]) (by simp [results, Tryz.results284, go_sem, k0, k1]) rfl ?_
                rw [HE2.out]
                exact ⟨rfl, ((HA5.out.setNew (q := ⟨w.heap.size, 0, none⟩) (Nat.le_refl _) _).setNew (q := ⟨w.heap.size, 1, none⟩) (Nat.le_refl _) _)⟩
            · have hdi : decide ((i : Int) < (j : Int)) = false := decide_eq_false (by omega)
              have HE2 := Lib.hid (show RES = some (nm, vbl S, ahead ts q4) by
                rw [HRES1.out, ← HE.out, show j - i = 0 by omega]; rfl)
              obtain ⟨hx5, ha5, hz5⟩ := HBX.out _ ha4
              have HA5 := Lib.hid ha5
              have HR4 := Lib.hid hr4
              have HF := Lib.hid (hx5.two (.string ⟨nm.toArray⟩) (.string S))
              obtain ⟨r0, r1, rf⟩ := hx5
              clear HE hr4 ha4 ha5
              go_wp2_with fail
              obtain ⟨k0, k1⟩ := HF.out
              refine bodyPost_ret (v := .tuple #[.agg #[.string ⟨nm.toArray⟩, .string S], .bool true]) (by simp [results, Tryz.results284, go_sem, k0, k1]) rfl ?_
              rw [HE2.out]
              refine ⟨by rw [← of_vbl (S := S) rfl], q4, rfl, HR4.out.two (by omega) (fun g o e h0 => by have := HH.out.tokLt g o e h0; omega) _ _, ((HA5.out.setNew (q := ⟨w.heap.size, 0, none⟩) (Nat.le_refl _) _).setNew (q := ⟨w.heap.size, 1, none⟩) (Nat.le_refl _) _)⟩
        · have HT1 := takeName_no wk hrk h1
          have HE2 := Lib.hid (show RES = none by rw [HRES.out, if_neg h1])
          clear h1 HRES hrk
          go_wp2_with fail
          refine HT1.mono ?_
          rintro e w5 ⟨rfl, hb5⟩
          obtain ⟨hx5, ha5, hz5⟩ := HBX.out _ (hak.trans (Aw.of (hb5.mono hak.size)))
          have HA5 := Lib.hid ha5
          have HF := Lib.hid (hx5.two (.string ⟨#[]⟩) (.string ⟨#[]⟩))
          obtain ⟨r0, r1, rf⟩ := hx5
          clear HT1 hb5 hak ha5
          go_wp2_with fail
          obtain ⟨k0, k1⟩ := HF.out
          refine bodyPost_ret (v := .tuple #[.agg #[.string ⟨#[]⟩, .string ⟨#[]⟩], .bool false]) (by simp [results, Tryz.results284, go_sem, k0, k1]) rfl ?_
          rw [HE2.out]
          exact ⟨rfl, ((HA5.out.setNew (q := ⟨w.heap.size, 0, none⟩) (Nat.le_refl _) _).setNew (q := ⟨w.heap.size, 1, none⟩) (Nat.le_refl _) _)⟩
      · have hd : decide ((j : Int) < 12) = false := decide_eq_false (by omega)
        have hak := haw
        have hrk := hr
        clear hgo hr HN HM HR haw
        by_cases h1 : (hdK (ahead ts q)).1 = 1
        · have HT1 := takeName_yes wr hrk h1
          have HRES1 := Lib.hid (show RES = (tyEnds j (bangP (ahead ts q).tail).2 (bangP (ahead ts q).tail).1).map fun z => ((hdK (ahead ts q)).2, z.1, z.2) by rw [HRES.out, if_pos h1])
          clear h1 HRES hrk
          go_wp2_with fail
          refine HT1.mono ?_
          rintro e w2 ⟨rfl, hzn, q2, hl2, hr2, ha2⟩
          have hb2 := bang_any w2 hr2
          rw [hl2] at hb2
          have ha02 := hak.trans (ha2.mono hak.size)
          have hbl := bang_len (ahead ts q).tail
          generalize (hdK (ahead ts q)).2 = nm at *
          generalize bangP (ahead ts q).tail = BP at *
          obtain ⟨bw, bl⟩ := BP
          have HA02 := Lib.hid ha02
          clear HT1 hl2 hr2 ha2 ha02 hak
          go_wp2_with fail
          refine hb2.mono ?_
          rintro e w3 ⟨rfl, q3, hl3, hr3, ha3⟩
          have HA03 := Lib.hid (HA02.out.trans (ha3.mono HA02.out.size))
          have HR3 := Lib.hid hr3
          have HL3 := Lib.hid hl3
          clear hb2 hl3 hr3 ha3
          go_wp2_with fail
          go_loopw [7, 27] (fun v7 v27 wr2 => EndRel R a cap ts (w.alloc (.cells #[.string ⟨#[]⟩, .string ⟨#[]⟩] 47)) j (tyEnds j bl bw) v7 v27 wr2) (fun _ v27 _ => j - (intOf v27).toNat)
          case atStart => exact ⟨0, q3, _, by omega, rfl, rfl, by show bw.length ≤ 2 * 0 + 1; have h : bw.length ≤ 1 := hbl; omega, HR3.out, HA03.out, Lib.hid (by rw [HL3.out]; rfl)⟩
          case round =>
            obtain ⟨i, q4, S, hi, rfl, rfl, hS, hr4, ha4, HE⟩ := hrel
            by_cases hij : i < j
            · have hdi : decide ((i : Int) < (j : Int)) = true := decide_eq_true (by omega)
              by_cases h93 : sg (hdK (ahead ts q4)) 93 = true
              · have HT4 := takeSign_yes 93 _ hr4 h93
                have HE2 := Lib.hid (show tyEnds j bl bw = tyEnds (j - (i + 1)) (bangP (ahead ts q4).tail).2 (vbl S ++ (93 :: (bangP (ahead ts q4).tail).1)) by
                  rw [← HE.out, show j - i = (j - (i + 1)) + 1 by omega, tyEnds, if_pos h93])
                clear h93 hr4 HE
                go_wp2_with fail
                refine HT4.mono ?_
                rintro e w5 ⟨rfl, q5, hl5, hr5, ha5⟩
                have hb5 := bang_any w5 hr5
                rw [hl5] at hb5
                have hbl5 := bang_len (ahead ts q4).tail
                generalize bangP (ahead ts q4).tail = BQ at *
                obtain ⟨bw5, bl5⟩ := BQ
                have HA05 := Lib.hid (ha4.trans (ha5.mono ha4.size))
                have hz5 : (⟨bw5.toArray⟩ : ByteArray).size ≤ 1 := hbl5
                have hz6 : (⟨#[93]⟩ ++ ⟨bw5.toArray⟩ : ByteArray).size ≤ 2 := by rw [ByteArray.size_append]; show 1 + _ ≤ 2; omega
                clear HT4 hl5 hr5 ha5 ha4
                go_wp2_with fail
                refine hb5.mono ?_
                rintro e w6 ⟨rfl, q6, hl6, hr6, ha6⟩
                have HA06 := Lib.hid (HA05.out.trans (ha6.mono HA05.out.size))
                have HR6 := Lib.hid hr6
                have HL6 := Lib.hid hl6
                clear hb5 hl6 hr6 ha6
                go_wp2_with fail
                go_roundw
                case rel =>
                  refine ⟨i + 1, q6, _, by omega, by go_num, rfl, ?_, HR6.out, HA06.out, Lib.hid ?_⟩
                  · rw [ByteArray.size_append]; omega
                  · rw [HL6.out, vbl_append', vbl_append']; exact HE2.out.symm
                case measure => simp [intOf]; omega
              · have h93 : sg (hdK (ahead ts q4)) 93 = false := by simpa using h93
                have HT4 := takeSign_no 93 _ hr4 h93
                have HE2 := Lib.hid (show RES = none by
                  rw [HRES1.out, ← HE.out, show j - i = (j - (i + 1)) + 1 by omega, tyEnds, if_neg (by rw [h93]; decide)]; rfl)
                clear h93 hr4 HE
                go_wp2_with fail
                refine HT4.mono ?_
                rintro e w5 ⟨rfl, hb5⟩
                obtain ⟨hx5, ha5, hz5⟩ := HBX.out _ (ha4.trans (Aw.of (hb5.mono ha4.size)))
                have HA5 := Lib.hid ha5
                have HF := Lib.hid (hx5.two (.string ⟨#[]⟩) (.string ⟨#[]⟩))
                obtain ⟨r0, r1, rf⟩ := hx5
                clear HT4 hb5 ha4 ha5
                go_wp2_with fail
                obtain ⟨k0, k1⟩ := HF.out
                refine bodyPost_ret (v := .tuple #[.agg #[.string ⟨#[]⟩, .string ⟨#[]⟩], .bool false]) (by simp [results, Tryz.results284, go_sem, k0, k1]) rfl ?_
                rw [HE2.out]
                exact ⟨rfl, ((HA5.out.setNew (q := ⟨w.heap.size, 0, none⟩) (Nat.le_refl _) _).setNew (q := ⟨w.heap.size, 1, none⟩) (Nat.le_refl _) _)⟩
            · have hdi : decide ((i : Int) < (j : Int)) = false := decide_eq_false (by omega)
              have HE2 := Lib.hid (show RES = some (nm, vbl S, ahead ts q4) by
                rw [HRES1.out, ← HE.out, show j - i = 0 by omega]; rfl)
              obtain ⟨hx5, ha5, hz5⟩ := HBX.out _ ha4
              have HA5 := Lib.hid ha5
              have HR4 := Lib.hid hr4
              have HF := Lib.hid (hx5.two (.string ⟨nm.toArray⟩) (.string S))
              obtain ⟨r0, r1, rf⟩ := hx5
              clear HE hr4 ha4 ha5
              go_wp2_with fail
              obtain ⟨k0, k1⟩ := HF.out
              refine bodyPost_ret (v := .tuple #[.agg #[.string ⟨nm.toArray⟩, .string S], .bool true]) (by simp [results, Tryz.results284, go_sem, k0, k1]) rfl ?_
              rw [HE2.out]
              refine ⟨by rw [← of_vbl (S := S) rfl], q4, rfl, HR4.out.two (by omega) (fun g o e h0 => by have := HH.out.tokLt g o e h0; omega) _ _, ((HA5.out.setNew (q := ⟨w.heap.size, 0, none⟩) (Nat.le_refl _) _).setNew (q := ⟨w.heap.size, 1, none⟩) (Nat.le_refl _) _)⟩
        · have HT1 := takeName_no wr hrk h1
          have HE2 := Lib.hid (show RES = none by rw [HRES.out, if_neg h1])
          clear h1 HRES hrk
          go_wp2_with fail
          refine HT1.mono ?_
          rintro e w5 ⟨rfl, hb5⟩
          obtain ⟨hx5, ha5, hz5⟩ := HBX.out _ (hak.trans (Aw.of (hb5.mono hak.size)))
          have HA5 := Lib.hid ha5
          have HF := Lib.hid (hx5.two (.string ⟨#[]⟩) (.string ⟨#[]⟩))
          obtain ⟨r0, r1, rf⟩ := hx5
          clear HT1 hb5 hak ha5
          go_wp2_with fail
          obtain ⟨k0, k1⟩ := HF.out
          refine bodyPost_ret (v := .tuple #[.agg #[.string ⟨#[]⟩, .string ⟨#[]⟩], .bool false]) (by simp [results, Tryz.results284, go_sem, k0, k1]) rfl ?_
          rw [HE2.out]
          exact ⟨rfl, ((HA5.out.setNew (q := ⟨w.heap.size, 0, none⟩) (Nat.le_refl _) _).setNew (q := ⟨w.heap.size, 1, none⟩) (Nat.le_refl _) _)⟩

end Go.Proofs.YtkahnlgedacppaaGreatDoor
/-
  Types that may be, their texts; what value.Type answers.
-/
namespace Go.Proofs.YtkahnlgedacppaaGreatDoor
open Go.RowKit

/-! ### what the library's functions say of a type's wraps -/
theorem drop_nil (p : UInt8 → Bool) : ∀ l : List UInt8, l.dropWhile p = [] ↔ l.all p = true
  | [] => by simp
  | b :: r => by
    rw [List.dropWhile_cons, List.all_cons]
    cases h : p b with
    | true => rw [if_pos rfl, drop_nil p r]; simp
    | false => rw [if_neg (by decide)]; simp
end Go.Proofs.YtkahnlgedacppaaGreatDoor
/-
  A type's text; what value.Type answers.
-/
namespace Go.Proofs.YtkahnlgedacppaaGreatDoor
open Go.RowKit

theorem Bt.twoA {W : World} {B : Nat} (h : Bt W B) (hlt : B < W.heap.size) (c0 c1 : Value) (o : Obj) : (((W.setCell ⟨B, 0, none⟩ c0).setCell ⟨B, 1, none⟩ c1).alloc o).cell? ⟨B, 0, none⟩ = some c0 ∧ (((W.setCell ⟨B, 0, none⟩ c0).setCell ⟨B, 1, none⟩ c1).alloc o).cell? ⟨B, 1, none⟩ = some c1 := by
  obtain ⟨k0, k1⟩ := h.two c0 c1
  have c : ∀ j, (((W.setCell ⟨B, 0, none⟩ c0).setCell ⟨B, 1, none⟩ c1).alloc o).cell? ⟨B, j, none⟩ = ((W.setCell ⟨B, 0, none⟩ c0).setCell ⟨B, 1, none⟩ c1).cell? ⟨B, j, none⟩ := fun j => World.cell?_of_block (a := ⟨B, j, none⟩) (Below.heap_alloc _ _ _ (by rw [size_two]; exact hlt))
  exact ⟨(c 0).trans k0, (c 1).trans k1⟩

end Go.Proofs.YtkahnlgedacppaaGreatDoor
