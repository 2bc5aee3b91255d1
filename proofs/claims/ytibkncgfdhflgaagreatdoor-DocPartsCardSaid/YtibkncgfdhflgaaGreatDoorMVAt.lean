/-
  value's reader: types.
-/
import Derived.Test.YtibkncgfdhflgaaGreatDoorMV3
import Derived.Test.YtibkncgfdhflgaaGreatDoorMDm
import Derived.Test.YtibkncgfdhflgaaGreatDoorMV7
import Derived.Test.YtibkncgfdhflgaaGreatDoorMV10
import Derived.Test.YtibkncgfdhflgaaGreatDoorShelf
import Derived.Shelf.Strings.SlTrimAscii
import Derived.Lib.Repeat
namespace Go.Proofs.YtibkncgfdhflgaaGreatDoor
open Go.RowKit

theorem NowV.refl {R : Nat} {a : Option Addr} {cap : Nat} {ts : List Tk} {p : Nat} {w w' : World} (h : Rv w R a cap ts p) (hb : Below w.heap.size w w') : NowV R a cap ts w (ahead ts p) w' := ⟨p, rfl, h.below hb, Aw.of hb⟩

set_option maxHeartbeats 1000000 in
theorem bang_any {R : Nat} {a : Option Addr} {cap : Nat} {ts : List Tk} {p : Nat} (w : World) (h : Rv w R a cap ts p) :
    Calls Tryz.prog 193 #[.pointer (some ⟨R, 0, none⟩)] w fun e w' => e = .returned (.string ⟨(bangP (ahead ts p)).1.toArray⟩) ∧ NowV R a cap ts w (bangP (ahead ts p)).2 w' := by
  by_cases hs : sg (hdK (ahead ts p)) 33 = true
  · have HT := takeSign_yes 33 w h hs
    have HU := Lib.hid (show bangP (ahead ts p) = ([33], (ahead ts p).tail) by unfold bangP; rw [if_pos hs])
    clear hs
    go_enter Tryz.func193, Tryz.ntmps193
    go_wp2_with fail
    refine HT.mono ?_
    rintro e w1 ⟨rfl, hn⟩
    have HN := Lib.hid hn
    clear hn HT
    go_wp2_with fail
    go_ret
    rw [HU.out]
    exact ⟨rfl, HN.out⟩
  · have hs : sg (hdK (ahead ts p)) 33 = false := by simpa using hs
    have HT := takeSign_no 33 w h hs
    have HU := Lib.hid (bang_no hs)
    clear hs
    go_enter Tryz.func193, Tryz.ntmps193
    go_wp2_with fail
    refine HT.mono ?_
    rintro e w1 ⟨rfl, hb⟩
    have HN := Lib.hid (NowV.refl h hb)
    clear hb HT
    go_wp2_with fail
    go_ret
    rw [HU.out]
    exact ⟨rfl, HN.out⟩

/-- The box of a type, as it is laid. -/
structure Bt (W : World) (B : Nat) : Prop where
  r0 : W.cell? ⟨B, 0, none⟩ = some (.string ⟨#[]⟩)
  r1 : W.cell? ⟨B, 1, none⟩ = some (.string ⟨#[]⟩)
  rf : ∀ j, W.frozen? ⟨B, j, none⟩ = false
theorem Bt.new (w : World) : Bt (w.alloc (.cells #[.string ⟨#[]⟩, .string ⟨#[]⟩] 47)) w.heap.size := by
  have hb : (w.alloc (.cells #[.string ⟨#[]⟩, .string ⟨#[]⟩] 47)).heap[w.heap.size]? = some (.cells #[.string ⟨#[]⟩, .string ⟨#[]⟩] 47 (0, 0)) := heap_alloc_new _ _
  exact ⟨Lib.cell_of_heap hb 0, Lib.cell_of_heap hb 1, fun j => by go_simp⟩
theorem Bt.keep {W W' : World} {B : Nat} (h : Bt W B) (hb : W'.heap[B]? = W.heap[B]?) : Bt W' B := by
  have c : ∀ o, W'.cell? ⟨B, o, none⟩ = W.cell? ⟨B, o, none⟩ := fun o => World.cell?_of_block (a := ⟨B, o, none⟩) hb
  exact ⟨(c 0).trans h.r0, (c 1).trans h.r1, fun j => (World.frozen?_of_block (a := ⟨B, j, none⟩) hb).trans (h.rf j)⟩
theorem heap_two (W : World) (B : Nat) (c0 c1 : Value) (k : Nat) (h : k ≠ B) : ((W.setCell ⟨B, 0, none⟩ c0).setCell ⟨B, 1, none⟩ c1).heap[k]? = W.heap[k]? := by
  rw [Below.heap_setCell _ _ _ _ h, Below.heap_setCell _ _ _ _ h]
theorem size_two (W : World) (B : Nat) (c0 c1 : Value) : ((W.setCell ⟨B, 0, none⟩ c0).setCell ⟨B, 1, none⟩ c1).heap.size = W.heap.size := by simp [World.setCell]
theorem Bt.two {W : World} {B : Nat} (h : Bt W B) (c0 c1 : Value) : ((W.setCell ⟨B, 0, none⟩ c0).setCell ⟨B, 1, none⟩ c1).cell? ⟨B, 0, none⟩ = some c0 ∧ ((W.setCell ⟨B, 0, none⟩ c0).setCell ⟨B, 1, none⟩ c1).cell? ⟨B, 1, none⟩ = some c1 := by
  obtain ⟨r0, r1, _⟩ := h
  refine ⟨?_, ?_⟩ <;> simp [go_sem, r0, r1]
theorem Rv.two {w : World} {R : Nat} {a : Option Addr} {cap : Nat} {ts : List Tk} {p : Nat} (h : Rv w R a cap ts p) {B : Nat} (hR : R ≠ B) (hg : ∀ g, a = some ⟨g, 0, none⟩ → 0 < ts.length → g ≠ B) (c0 c1 : Value) : Rv ((w.setCell ⟨B, 0, none⟩ c0).setCell ⟨B, 1, none⟩ c1) R a cap ts p :=
  h.keepT (heap_two _ _ _ _ R hR) (fun g e h0 => heap_two _ _ _ _ g (hg g e h0))

/-- What typeOf answers. -/
def TyIs (R : Nat) (a : Option Addr) (cap : Nat) (ts : List Tk) (w : World) (o : Option (List UInt8 × List UInt8 × List Sk)) (e : Ending) (w' : World) : Prop :=
  match o with
  | none => e = .returned (.tuple #[.agg #[.string ⟨#[]⟩, .string ⟨#[]⟩], .bool false]) ∧ Aw R w.heap.size w w'
  | some (n, ws, r) => e = .returned (.tuple #[.agg #[.string ⟨n.toArray⟩, .string ⟨ws.toArray⟩], .bool true]) ∧ NowV R a cap ts w r w'

/-- The first loop: so many lists have begun. -/
def OpRel (R : Nat) (a : Option Addr) (cap : Nat) (ts : List Tk) (w0 : World) (L : List Sk) (v4 : Value) (wr : World) : Prop :=
  ∃ j q : Nat, j ≤ 12 ∧ v4 = .int .i64 j ∧ Rv wr R a cap ts q ∧ Aw R w0.heap.size w0 wr ∧ Hid (opensN 12 L = j + opensN (12 - j) (ahead ts q)) ∧ Hid (opensL 12 L = opensL (12 - j) (ahead ts q))
/-- The second loop: so many have ended. -/
def EndRel (R : Nat) (a : Option Addr) (cap : Nat) (ts : List Tk) (w0 : World) (m : Nat) (RES : Option (List UInt8 × List Sk)) (v7 v27 : Value) (wr : World) : Prop :=
  ∃ (i q : Nat) (S : ByteArray), i ≤ m ∧ v27 = .int .i64 i ∧ v7 = .string S ∧ S.size ≤ 2 * i + 1 ∧ Rv wr R a cap ts q ∧ Aw R w0.heap.size w0 wr ∧ Hid (tyEnds (m - i) (ahead ts q) (vbl S) = RES)

theorem str_of (l : List UInt8) : vbl (⟨l.toArray⟩ : ByteArray) = l := rfl
theorem of_vbl {S : ByteArray} {l : List UInt8} (h : vbl S = l) : S = ⟨l.toArray⟩ := by subst h; rfl
theorem bang_len (l : List Sk) : (bangP l).1.length ≤ 1 := by
  unfold bangP
  split
  · exact Nat.le_refl 1
  · exact Nat.zero_le 1
theorem vbl_append' (a b : ByteArray) : vbl (a ++ b) = vbl a ++ vbl b := by
  unfold vbl
  rw [ByteArray.data_append, Array.toList_append]

set_option maxHeartbeats 8000000 in
set_option maxRecDepth 100000 in
theorem typeOf_any {R : Nat} {a : Option Addr} {cap : Nat} {ts : List Tk} {p : Nat} (w : World) (h : Rv w R a cap ts p) :
    Calls Tryz.prog 187 #[.pointer (some ⟨R, 0, none⟩)] w (TyIs R a cap ts w (typeP (ahead ts p))) := by
  have HH := Lib.hid h
  have hRlt := h.lt
  have hA := h.alloc (.cells #[.string ⟨#[]⟩, .string ⟨#[]⟩] 47)
  have HX0 := Lib.hid (Bt.new w)
  have hb0 : Below w.heap.size w (w.alloc (.cells #[.string ⟨#[]⟩, .string ⟨#[]⟩] 47)) := (Below.refl _ w).alloc (Nat.le_refl _) _
  have hz0 : (w.alloc (.cells #[.string ⟨#[]⟩, .string ⟨#[]⟩] 47)).heap.size = w.heap.size + 1 := by simp
  have HA0 := Lib.hid hA
  have HB0 := Lib.hid hb0
  have HZ0 := Lib.hid hz0
  -- what the first world's box gives later ones
  have HBX : ∀ W, Aw R (w.alloc (.cells #[.string ⟨#[]⟩, .string ⟨#[]⟩] 47)).heap.size (w.alloc (.cells #[.string ⟨#[]⟩, .string ⟨#[]⟩] 47)) W → Bt W w.heap.size ∧ Aw R w.heap.size w W ∧ w.heap.size + 1 ≤ W.heap.size := fun W hW => ⟨HX0.out.keep (hW.block _ (by rw [HZ0.out]; omega) (by omega)), (Aw.of HB0.out).trans (hW.mono (by rw [HZ0.out]; omega)), by have := hW.size; rw [HZ0.out] at this; exact this⟩
  have HBX := Lib.hid HBX
  have HTP := Lib.hid (show typeP (ahead ts p) = if (hdK (opensL 12 (ahead ts p))).1 = 1 then (tyEnds (opensN 12 (ahead ts p)) (bangP (opensL 12 (ahead ts p)).tail).2 (bangP (opensL 12 (ahead ts p)).tail).1).map fun q => ((hdK (opensL 12 (ahead ts p))).2, q.1, q.2) else none from rfl)
  clear h hA hb0 hz0
  generalize hL : ahead ts p = L at *
  have HL := Lib.hid hL
  clear hL
  generalize typeP L = RES at *
  go_enter Tryz.func187, Tryz.ntmps187
  go_wp2_with fail
  go_loopw [4] (fun v4 wr => OpRel R a cap ts (w.alloc (.cells #[.string ⟨#[]⟩, .string ⟨#[]⟩] 47)) L v4 wr) (fun v4 _ => 12 - (intOf v4).toNat)
  case atStart => exact ⟨0, p, by omega, rfl, HA0.out, Aw.refl _ _ _, Lib.hid (by rw [HL.out, Nat.zero_add]), Lib.hid (by rw [HL.out])⟩
  case round =>
    obtain ⟨j, q, hj, rfl, hr, haw, HN, HM⟩ := hrel
    have HR := Lib.hid hr
    by_cases hgo : j < 12 ∧ sg (hdK (ahead ts q)) 91 = true
    · have hd : decide ((j : Int) < 12) = true := decide_eq_true (by omega)
      have HT := takeSign_yes 91 wr hr hgo.2
      have HN2 := Lib.hid (show opensN 12 L = (j + 1) + opensN (12 - (j + 1)) (ahead ts q).tail by
        rw [HN.out, show 12 - j = (12 - (j + 1)) + 1 by omega]
        show j + (if sg (hdK (ahead ts q)) 91 = true then _ else 0) = _
        rw [if_pos hgo.2]; omega)
      have HM2 := Lib.hid (show opensL 12 L = opensL (12 - (j + 1)) (ahead ts q).tail by
        rw [HM.out, show 12 - j = (12 - (j + 1)) + 1 by omega]
        show (if sg (hdK (ahead ts q)) 91 = true then _ else _) = _
        rw [if_pos hgo.2])
      have hj12 := hgo.1
      clear hgo hr HN HM
      go_wp2_with fail
      refine HT.mono ?_
      rintro e w1 ⟨rfl, q1, hl1, hr1, ha1⟩
      have HL1 := Lib.hid hl1
      have HAW := Lib.hid (haw.trans (ha1.mono haw.size))
      clear hl1 ha1 haw HT
      go_wp2_with fail
      go_roundw
      case rel => exact ⟨j + 1, q1, by omega, by go_num, hr1, HAW.out, Lib.hid (by rw [HL1.out]; exact HN2.out), Lib.hid (by rw [HL1.out]; exact HM2.out)⟩
      case measure => simp [intOf]; omega
    · -- no more lists begin: the rest, from wr or from the world behind the last look
      have HN2 := Lib.hid (show opensN 12 L = j ∧ opensL 12 L = ahead ts q by
        rw [HN.out, HM.out]
        by_cases h12 : j = 12
        · subst h12; exact ⟨rfl, rfl⟩
        · have hsf : sg (hdK (ahead ts q)) 91 = false := by
            cases hx : sg (hdK (ahead ts q)) 91 with
            | false => rfl
            | true => exact absurd ⟨by omega, hx⟩ hgo
          rw [show 12 - j = (12 - (j + 1)) + 1 by omega]
          refine ⟨?_, ?_⟩
          · show j + (if sg (hdK (ahead ts q)) 91 = true then _ else 0) = _
            rw [if_neg (by rw [hsf]; decide)]; omega
          · show (if sg (hdK (ahead ts q)) 91 = true then _ else _) = _
            rw [if_neg (by rw [hsf]; decide)])
      have HRES := Lib.hid (show RES = if (hdK (ahead ts q)).1 = 1 then (tyEnds j (bangP (ahead ts q).tail).2 (bangP (ahead ts q).tail).1).map fun z => ((hdK (ahead ts q)).2, z.1, z.2) else none by rw [HTP.out, HN2.out.1, HN2.out.2])
      have HREST : ∀ W, Rv W R a cap ts q → Aw R (w.alloc (.cells #[.string ⟨#[]⟩, .string ⟨#[]⟩] 47)).heap.size (w.alloc (.cells #[.string ⟨#[]⟩, .string ⟨#[]⟩] 47)) W → True := fun _ _ _ => trivial
      clear HREST HTP
      by_cases h12 : j < 12
      · have hd : decide ((j : Int) < 12) = true := decide_eq_true (by omega)
        have hsf : sg (hdK (ahead ts q)) 91 = false := by
          cases hx : sg (hdK (ahead ts q)) 91 with
          | false => rfl
          | true => exact absurd ⟨by omega, hx⟩ hgo
        have HT := takeSign_no 91 wr hr hsf
        clear hgo hsf hr HN HM
        go_wp2_with fail
        refine HT.mono ?_
        rintro e wk ⟨rfl, hbk⟩
        have hrk := HR.out.below hbk
        have hak := haw.trans (Aw.of (hbk.mono haw.size))
        clear HT hbk HR haw
        by_cases h1 : (hdK (ahead ts q)).1 = 1
        · have HT1 := takeName_yes wk hrk h1
          have HRES1 := Lib.hid (show RES = (tyEnds j (bangP (ahead ts q).tail).2 (bangP (ahead ts q).tail).1).map fun z => ((hdK (ahead ts q)).2, z.1, z.2) by rw [HRES.out, if_pos h1])
          clear h1 HRES hrk
          go_wp2_with fail
          refine HT1.mono ?_
          rintro e w2 ⟨rfl, hzn, q2, hl2, hr2, ha2⟩
          have hb2 := bang_any w2 hr2
          rw [hl2] at hb2
          have ha02 := hak.trans (ha2.mono hak.size)
          have hbl := bang_len (ahead ts q).tail
          generalize (hdK (ahead ts q)).2 = nm at *
          generalize bangP (ahead ts q).tail = BP at *
          obtain ⟨bw, bl⟩ := BP
          have HA02 := Lib.hid ha02
          clear HT1 hl2 hr2 ha2 ha02 hak
          go_wp2_with fail
          refine hb2.mono ?_
          rintro e w3 ⟨rfl, q3, hl3, hr3, ha3⟩
          have HA03 := Lib.hid (HA02.out.trans (ha3.mono HA02.out.size))
          have HR3 := Lib.hid hr3
          have HL3 := Lib.hid hl3
          clear hb2 hl3 hr3 ha3
          go_wp2_with fail
          go_loopw [7, 27] (fun v7 v27 wr2 => EndRel R a cap ts (w.alloc (.cells #[.string ⟨#[]⟩, .string ⟨#[]⟩] 47)) j (tyEnds j bl bw) v7 v27 wr2) (fun _ v27 _ => j - (intOf v27).toNat)
          case atStart => exact ⟨0, q3, _, by omega, rfl, rfl, by show bw.length ≤ 2 * 0 + 1; have h : bw.length ≤ 1 := hbl; omega, HR3.out, HA03.out, Lib.hid (by rw [HL3.out]; rfl)⟩
          case round =>
            obtain ⟨i, q4, S, hi, rfl, rfl, hS, hr4, ha4, HE⟩ := hrel
            by_cases hij : i < j
            · have hdi : decide ((i : Int) < (j : Int)) = true := decide_eq_true (by omega)
              by_cases h93 : sg (hdK (ahead ts q4)) 93 = true
              · have HT4 := takeSign_yes 93 _ hr4 h93
                have HE2 := Lib.hid (show tyEnds j bl bw = tyEnds (j - (i + 1)) (bangP (ahead ts q4).tail).2 (vbl S ++ (93 :: (bangP (ahead ts q4).tail).1)) by
                  rw [← HE.out, show j - i = (j - (i + 1)) + 1 by omega, tyEnds, if_pos h93])
                clear h93 hr4 HE
                go_wp2_with fail
                refine HT4.mono ?_
                rintro e w5 ⟨rfl, q5, hl5, hr5, ha5⟩
                have hb5 := bang_any w5 hr5
                rw [hl5] at hb5
                have hbl5 := bang_len (ahead ts q4).tail
                generalize bangP (ahead ts q4).tail = BQ at *
                obtain ⟨bw5, bl5⟩ := BQ
                have HA05 := Lib.hid (ha4.trans (ha5.mono ha4.size))
                have hz5 : (⟨bw5.toArray⟩ : ByteArray).size ≤ 1 := hbl5
                have hz6 : (⟨#[93]⟩ ++ ⟨bw5.toArray⟩ : ByteArray).size ≤ 2 := by rw [ByteArray.size_append]; show 1 + _ ≤ 2; omega
                clear HT4 hl5 hr5 ha5 ha4
                go_wp2_with fail
                refine hb5.mono ?_
                rintro e w6 ⟨rfl, q6, hl6, hr6, ha6⟩
                have HA06 := Lib.hid (HA05.out.trans (ha6.mono HA05.out.size))
                have HR6 := Lib.hid hr6
                have HL6 := Lib.hid hl6
                clear hb5 hl6 hr6 ha6
                go_wp2_with fail
                go_roundw
                case rel =>
                  refine ⟨i + 1, q6, _, by omega, by go_num, rfl, ?_, HR6.out, HA06.out, Lib.hid ?_⟩
                  · rw [ByteArray.size_append]; omega
                  · rw [HL6.out, vbl_append', vbl_append']; exact HE2.out.symm
                case measure => simp [intOf]; omega
              · have h93 : sg (hdK (ahead ts q4)) 93 = false := by simpa using h93
                have HT4 := takeSign_no 93 _ hr4 h93
                have HE2 := Lib.hid (show RES = none by
                  rw [HRES1.out, ← HE.out, show j - i = (j - (i + 1)) + 1 by omega, tyEnds, if_neg (by rw [h93]; decide)]; rfl)
                clear h93 hr4 HE
                go_wp2_with fail
                refine HT4.mono ?_
                rintro e w5 ⟨rfl, hb5⟩
                obtain ⟨hx5, ha5, hz5⟩ := HBX.out _ (ha4.trans (Aw.of (hb5.mono ha4.size)))
                have HA5 := Lib.hid ha5
                have HF := Lib.hid (hx5.two (.string ⟨#[]⟩) (.string ⟨#[]⟩))
                obtain ⟨r0, r1, rf⟩ := hx5
                clear HT4 hb5 ha4 ha5
                go_wp2_with fail
                obtain ⟨k0, k1⟩ := HF.out
                refine bodyPost_ret (v := .tuple #[.agg #[.string ⟨#[]⟩, .string ⟨#[]⟩], .bool false]) (by simp [results, Tryz.results187, go_sem, k0, k1]) rfl ?_
                rw [HE2.out]
                exact ⟨rfl, ((HA5.out.setNew (q := ⟨w.heap.size, 0, none⟩) (Nat.le_refl _) _).setNew (q := ⟨w.heap.size, 1, none⟩) (Nat.le_refl _) _)⟩
            · have hdi : decide ((i : Int) < (j : Int)) = false := decide_eq_false (by omega)
              have HE2 := Lib.hid (show RES = some (nm, vbl S, ahead ts q4) by
                rw [HRES1.out, ← HE.out, show j - i = 0 by omega]; rfl)
              obtain ⟨hx5, ha5, hz5⟩ := HBX.out _ ha4
              have HA5 := Lib.hid ha5
              have HR4 := Lib.hid hr4
              have HF := Lib.hid (hx5.two (.string ⟨nm.toArray⟩) (.string S))
              obtain ⟨r0, r1, rf⟩ := hx5
              clear HE hr4 ha4 ha5
              go_wp2_with fail
              obtain ⟨k0, k1⟩ := HF.out
              refine bodyPost_ret (v := .tuple #[.agg #[.string ⟨nm.toArray⟩, .string S], .bool true]) (by simp [results, Tryz.results187, go_sem, k0, k1]) rfl ?_
              rw [HE2.out]
              refine ⟨by rw [← of_vbl (S := S) rfl], q4, rfl, HR4.out.two (by omega) (fun g e h0 => by have := HH.out.tokLt g e h0; omega) _ _, ((HA5.out.setNew (q := ⟨w.heap.size, 0, none⟩) (Nat.le_refl _) _).setNew (q := ⟨w.heap.size, 1, none⟩) (Nat.le_refl _) _)⟩
        · have HT1 := takeName_no wk hrk h1
          have HE2 := Lib.hid (show RES = none by rw [HRES.out, if_neg h1])
          clear h1 HRES hrk
          go_wp2_with fail
          refine HT1.mono ?_
          rintro e w5 ⟨rfl, hb5⟩
          obtain ⟨hx5, ha5, hz5⟩ := HBX.out _ (hak.trans (Aw.of (hb5.mono hak.size)))
          have HA5 := Lib.hid ha5
          have HF := Lib.hid (hx5.two (.string ⟨#[]⟩) (.string ⟨#[]⟩))
          obtain ⟨r0, r1, rf⟩ := hx5
          clear HT1 hb5 hak ha5
          go_wp2_with fail
          obtain ⟨k0, k1⟩ := HF.out
          refine bodyPost_ret (v := .tuple #[.agg #[.string ⟨#[]⟩, .string ⟨#[]⟩], .bool false]) (by simp [results, Tryz.results187, go_sem, k0, k1]) rfl ?_
          rw [HE2.out]
          exact ⟨rfl, ((HA5.out.setNew (q := ⟨w.heap.size, 0, none⟩) (Nat.le_refl _) _).setNew (q := ⟨w.heap.size, 1, none⟩) (Nat.le_refl _) _)⟩
      · have hd : decide ((j : Int) < 12) = false := decide_eq_false (by omega)
        have hak := haw
        have hrk := hr
        clear hgo hr HN HM HR haw
        by_cases h1 : (hdK (ahead ts q)).1 = 1
        · have HT1 := takeName_yes wr hrk h1
          have HRES1 := Lib.hid (show RES = (tyEnds j (bangP (ahead ts q).tail).2 (bangP (ahead ts q).tail).1).map fun z => ((hdK (ahead ts q)).2, z.1, z.2) by rw [HRES.out, if_pos h1])
          clear h1 HRES hrk
          go_wp2_with fail
          refine HT1.mono ?_
          rintro e w2 ⟨rfl, hzn, q2, hl2, hr2, ha2⟩
          have hb2 := bang_any w2 hr2
          rw [hl2] at hb2
          have ha02 := hak.trans (ha2.mono hak.size)
          have hbl := bang_len (ahead ts q).tail
          generalize (hdK (ahead ts q)).2 = nm at *
          generalize bangP (ahead ts q).tail = BP at *
          obtain ⟨bw, bl⟩ := BP
          have HA02 := Lib.hid ha02
          clear HT1 hl2 hr2 ha2 ha02 hak
          go_wp2_with fail
          refine hb2.mono ?_
          rintro e w3 ⟨rfl, q3, hl3, hr3, ha3⟩
          have HA03 := Lib.hid (HA02.out.trans (ha3.mono HA02.out.size))
          have HR3 := Lib.hid hr3
          have HL3 := Lib.hid hl3
          clear hb2 hl3 hr3 ha3
          go_wp2_with fail
          go_loopw [7, 27] (fun v7 v27 wr2 => EndRel R a cap ts (w.alloc (.cells #[.string ⟨#[]⟩, .string ⟨#[]⟩] 47)) j (tyEnds j bl bw) v7 v27 wr2) (fun _ v27 _ => j - (intOf v27).toNat)
          case atStart => exact ⟨0, q3, _, by omega, rfl, rfl, by show bw.length ≤ 2 * 0 + 1; have h : bw.length ≤ 1 := hbl; omega, HR3.out, HA03.out, Lib.hid (by rw [HL3.out]; rfl)⟩
          case round =>
            obtain ⟨i, q4, S, hi, rfl, rfl, hS, hr4, ha4, HE⟩ := hrel
            by_cases hij : i < j
            · have hdi : decide ((i : Int) < (j : Int)) = true := decide_eq_true (by omega)
              by_cases h93 : sg (hdK (ahead ts q4)) 93 = true
              · have HT4 := takeSign_yes 93 _ hr4 h93
                have HE2 := Lib.hid (show tyEnds j bl bw = tyEnds (j - (i + 1)) (bangP (ahead ts q4).tail).2 (vbl S ++ (93 :: (bangP (ahead ts q4).tail).1)) by
                  rw [← HE.out, show j - i = (j - (i + 1)) + 1 by omega, tyEnds, if_pos h93])
                clear h93 hr4 HE
                go_wp2_with fail
                refine HT4.mono ?_
                rintro e w5 ⟨rfl, q5, hl5, hr5, ha5⟩
                have hb5 := bang_any w5 hr5
                rw [hl5] at hb5
                have hbl5 := bang_len (ahead ts q4).tail
                generalize bangP (ahead ts q4).tail = BQ at *
                obtain ⟨bw5, bl5⟩ := BQ
                have HA05 := Lib.hid (ha4.trans (ha5.mono ha4.size))
                have hz5 : (⟨bw5.toArray⟩ : ByteArray).size ≤ 1 := hbl5
                have hz6 : (⟨#[93]⟩ ++ ⟨bw5.toArray⟩ : ByteArray).size ≤ 2 := by rw [ByteArray.size_append]; show 1 + _ ≤ 2; omega
                clear HT4 hl5 hr5 ha5 ha4
                go_wp2_with fail
                refine hb5.mono ?_
                rintro e w6 ⟨rfl, q6, hl6, hr6, ha6⟩
                have HA06 := Lib.hid (HA05.out.trans (ha6.mono HA05.out.size))
                have HR6 := Lib.hid hr6
                have HL6 := Lib.hid hl6
                clear hb5 hl6 hr6 ha6
                go_wp2_with fail
                go_roundw
                case rel =>
                  refine ⟨i + 1, q6, _, by omega, by go_num, rfl, ?_, HR6.out, HA06.out, Lib.hid ?_⟩
                  · rw [ByteArray.size_append]; omega
                  · rw [HL6.out, vbl_append', vbl_append']; exact HE2.out.symm
                case measure => simp [intOf]; omega
              · have h93 : sg (hdK (ahead ts q4)) 93 = false := by simpa using h93
                have HT4 := takeSign_no 93 _ hr4 h93
                have HE2 := Lib.hid (show RES = none by
                  rw [HRES1.out, ← HE.out, show j - i = (j - (i + 1)) + 1 by omega, tyEnds, if_neg (by rw [h93]; decide)]; rfl)
                clear h93 hr4 HE
                go_wp2_with fail
                refine HT4.mono ?_
                rintro e w5 ⟨rfl, hb5⟩
                obtain ⟨hx5, ha5, hz5⟩ := HBX.out _ (ha4.trans (Aw.of (hb5.mono ha4.size)))
                have HA5 := Lib.hid ha5
                have HF := Lib.hid (hx5.two (.string ⟨#[]⟩) (.string ⟨#[]⟩))
                obtain ⟨r0, r1, rf⟩ := hx5
                clear HT4 hb5 ha4 ha5
                go_wp2_with fail
                obtain ⟨k0, k1⟩ := HF.out
                refine bodyPost_ret (v := .tuple #[.agg #[.string ⟨#[]⟩, .string ⟨#[]⟩], .bool false]) (by simp [results, Tryz.results187, go_sem, k0, k1]) rfl ?_
                rw [HE2.out]
                exact ⟨rfl, ((HA5.out.setNew (q := ⟨w.heap.size, 0, none⟩) (Nat.le_refl _) _).setNew (q := ⟨w.heap.size, 1, none⟩) (Nat.le_refl _) _)⟩
            · have hdi : decide ((i : Int) < (j : Int)) = false := decide_eq_false (by omega)
              have HE2 := Lib.hid (show RES = some (nm, vbl S, ahead ts q4) by
                rw [HRES1.out, ← HE.out, show j - i = 0 by omega]; rfl)
              obtain ⟨hx5, ha5, hz5⟩ := HBX.out _ ha4
              have HA5 := Lib.hid ha5
              have HR4 := Lib.hid hr4
              have HF := Lib.hid (hx5.two (.string ⟨nm.toArray⟩) (.string S))
              obtain ⟨r0, r1, rf⟩ := hx5
              clear HE hr4 ha4 ha5
              go_wp2_with fail
              obtain ⟨k0, k1⟩ := HF.out
              refine bodyPost_ret (v := .tuple #[.agg #[.string ⟨nm.toArray⟩, .string S], .bool true]) (by simp [results, Tryz.results187, go_sem, k0, k1]) rfl ?_
              rw [HE2.out]
              refine ⟨by rw [← of_vbl (S := S) rfl], q4, rfl, HR4.out.two (by omega) (fun g e h0 => by have := HH.out.tokLt g e h0; omega) _ _, ((HA5.out.setNew (q := ⟨w.heap.size, 0, none⟩) (Nat.le_refl _) _).setNew (q := ⟨w.heap.size, 1, none⟩) (Nat.le_refl _) _)⟩
        · have HT1 := takeName_no wr hrk h1
          have HE2 := Lib.hid (show RES = none by rw [HRES.out, if_neg h1])
          clear h1 HRES hrk
          go_wp2_with fail
          refine HT1.mono ?_
          rintro e w5 ⟨rfl, hb5⟩
          obtain ⟨hx5, ha5, hz5⟩ := HBX.out _ (hak.trans (Aw.of (hb5.mono hak.size)))
          have HA5 := Lib.hid ha5
          have HF := Lib.hid (hx5.two (.string ⟨#[]⟩) (.string ⟨#[]⟩))
          obtain ⟨r0, r1, rf⟩ := hx5
          clear HT1 hb5 hak ha5
          go_wp2_with fail
          obtain ⟨k0, k1⟩ := HF.out
          refine bodyPost_ret (v := .tuple #[.agg #[.string ⟨#[]⟩, .string ⟨#[]⟩], .bool false]) (by simp [results, Tryz.results187, go_sem, k0, k1]) rfl ?_
          rw [HE2.out]
          exact ⟨rfl, ((HA5.out.setNew (q := ⟨w.heap.size, 0, none⟩) (Nat.le_refl _) _).setNew (q := ⟨w.heap.size, 1, none⟩) (Nat.le_refl _) _)⟩

end Go.Proofs.YtibkncgfdhflgaaGreatDoor

/-
  Types that may be, their texts; what value.Type answers.
-/
namespace Go.Proofs.YtibkncgfdhflgaaGreatDoor
open Go.RowKit

/-! ### what the library's functions say of a type's wraps -/
def wrP (b : UInt8) : Bool := b == 33 || b == 93
theorem wrC (b : UInt8) : ([33, 93] : List UInt8).contains b = wrP b := by
  unfold wrP
  rw [List.contains_cons, List.contains_cons, List.contains_nil, Bool.or_false]
theorem drop_nil (p : UInt8 → Bool) : ∀ l : List UInt8, l.dropWhile p = [] ↔ l.all p = true
  | [] => by simp
  | b :: r => by
    rw [List.dropWhile_cons, List.all_cons]
    cases h : p b with
    | true => rw [if_pos rfl, drop_nil p r]; simp
    | false => rw [if_neg (by decide)]; simp
theorem drop_head (p : UInt8 → Bool) : ∀ (l : List UInt8) (b : UInt8) (r : List UInt8), l.dropWhile p = b :: r → p b = false
  | [], _, _, h => by simp at h
  | c :: l, b, r, h => by
    rw [List.dropWhile_cons] at h
    cases hc : p c with
    | true => rw [hc, if_pos rfl] at h; exact drop_head p l b r h
    | false =>
      rw [hc, if_neg (by decide)] at h
      injection h with h1 _
      rw [← h1]; exact hc
theorem trim_nil (l : List UInt8) : Lib.trimS l [33, 93] = [] ↔ l.all wrP = true := by
  have e : (fun x => ([33, 93] : List UInt8).contains x) = wrP := funext wrC
  unfold Lib.trimS Lib.trimLeftS Lib.trimRightS
  rw [e, drop_nil]
  constructor
  · intro h
    cases hd : l.reverse.dropWhile wrP with
    | nil =>
      have := (drop_nil wrP l.reverse).1 hd
      rwa [List.all_reverse] at this
    | cons b r =>
      have hb := drop_head wrP _ b r hd
      rw [hd, List.all_reverse, List.all_cons, hb, Bool.false_and] at h
      cases h
  · intro h
    have : l.reverse.dropWhile wrP = [] := (drop_nil wrP _).2 (by rw [List.all_reverse]; exact h)
    rw [this]; rfl
theorem contains_cons' (b : UInt8) (l sub : List UInt8) : Lib.contains (b :: l) sub = (sub.isPrefixOf (b :: l) || Lib.contains l sub) := by
  unfold Lib.contains
  rw [Lib.index]
  cases hp : sub.isPrefixOf (b :: l) with
  | true => rw [if_pos rfl]; rfl
  | false =>
    rw [if_neg (by decide), Bool.false_or]
    have h1 := Lib.index_ge l sub
    by_cases h : Lib.index l sub = -1
    · rw [h]; rfl
    · rw [if_neg (by simpa using h)]
      congr 1
      exact propext ⟨fun _ => by omega, fun _ => by omega⟩
theorem wr_eq : ∀ l : List UInt8, wrOk l = (l.all wrP && !Lib.contains l [33, 33])
  | [] => by rfl
  | [b] => by
    rw [contains_cons', List.all_cons]
    unfold wrOk
    have h1 : ([33, 33] : List UInt8).isPrefixOf [b] = false := by simp [List.isPrefixOf]
    have h2 : Lib.contains [] [33, 33] = false := by rfl
    rw [h1, h2]
    simp [wrP]
  | b :: c :: r => by
    rw [contains_cons', List.all_cons]
    unfold wrOk
    rw [wr_eq (c :: r)]
    have h1 : ([33, 33] : List UInt8).isPrefixOf (b :: c :: r) = (b == 33 && c == 33) := by
      simp only [List.isPrefixOf, Bool.and_true]
      rw [show ((33 : UInt8) == b) = (b == 33) from by rw [Bool.eq_iff_iff, beq_iff_eq, beq_iff_eq]; exact eq_comm, show ((33 : UInt8) == c) = (c == 33) from by rw [Bool.eq_iff_iff, beq_iff_eq, beq_iff_eq]; exact eq_comm]
    rw [h1]
    show (wrP b && !(b == 33 && c == 33) && ((c :: r).all wrP && !Lib.contains (c :: r) [33, 33])) = _
    cases wrP b <;> cases (b == 33 && c == 33) <;> cases ((c :: r).all wrP) <;> cases (Lib.contains (c :: r) [33, 33]) <;> rfl
theorem cnt_eq : ∀ l : List UInt8, Lib.countByte l 93 = cnt93 l
  | [] => rfl
  | b :: r => by
    show (b :: r).count 93 = (if b == 93 then 1 else 0) + cnt93 r
    rw [List.count_cons, ← cnt_eq r]
    show r.count 93 + _ = _ + r.count 93
    omega
theorem tyOk_eq (n ws : List UInt8) : tyOk n ws = (nameB n && (ws.all wrP && (!Lib.contains ws [33, 33] && decide (cnt93 ws ≤ 12)))) := by
  unfold tyOk
  rw [wr_eq, Bool.and_assoc]

theorem at_maxlen {w W : World} (hm : ∃ m, w.cell? ⟨0, 0, none⟩ = some (.int .i64 m)) (hb : Below w.heap.size w W) : ∃ m, W.cell? ⟨0, 0, none⟩ = some (.int .i64 m) := by
  obtain ⟨m, h⟩ := hm
  exact ⟨m, (hb.cell (p := ⟨0, 0, none⟩) (cell_lt h)).trans h⟩

set_option maxHeartbeats 4000000 in
set_option maxRecDepth 100000 in
theorem checkType_any (n s : ByteArray) (w : World) (hn : n.size ≤ 1000000) (hs : s.size ≤ 1000000) (hm : ∃ m, w.cell? ⟨0, 0, none⟩ = some (.int .i64 m)) :
    Calls Tryz.prog 44 #[.agg #[.string n, .string s]] w (BoolBelow (tyOk (vbl n) (vbl s)) w) := by
  have hb0 : Below w.heap.size w (w.alloc (.cells #[.string n, .string s] 47)) := (Below.refl _ w).alloc (Nat.le_refl _) _
  have hz0 : (w.alloc (.cells #[.string n, .string s] 47)).heap.size = w.heap.size + 1 := by simp
  have hbx : (w.alloc (.cells #[.string n, .string s] 47)).heap[w.heap.size]? = some (.cells #[.string n, .string s] 47 (0, 0)) := heap_alloc_new _ _
  have F : ∀ W, Below (w.alloc (.cells #[.string n, .string s] 47)).heap.size (w.alloc (.cells #[.string n, .string s] 47)) W → W.cell? ⟨w.heap.size, 0, none⟩ = some (.string n) ∧ W.cell? ⟨w.heap.size, 1, none⟩ = some (.string s) ∧ Below w.heap.size w W := fun W hW => by
    have hk := (hW.block w.heap.size (by rw [hz0]; omega)).trans hbx
    exact ⟨Lib.cell_of_heap hk 0, Lib.cell_of_heap hk 1, hb0.trans (hW.mono (by rw [hz0]; omega))⟩
  have HM := Lib.hid hm
  have HF := Lib.hid F
  have HU := Lib.hid (tyOk_eq (vbl n) (vbl s))
  have HN := name_any n (w.alloc (.cells #[.string n, .string s] 47)) (by unfold maxLen; omega)
  change Calls _ _ _ _ (fun e w' => e = .returned (.bool (nameB (vbl n))) ∧ _) at HN
  clear hm F hbx
  cases hnm : nameB (vbl n) with
  | false =>
    rw [hnm] at HN
    have HR := Lib.hid (show tyOk (vbl n) (vbl s) = false by rw [HU.out, hnm]; rfl)
    clear hnm
    go_enter Tryz.func44, Tryz.ntmps44
    go_wp2_with fail
    refine HN.mono ?_
    rintro e w1 ⟨rfl, b1⟩
    obtain ⟨c0, c1, hb⟩ := HF.out w1 b1
    go_wp2_with fail
    go_ret
    exact boolBelow_of HR.out.symm hb
  | true =>
    rw [hnm] at HN
    have HU2 := Lib.hid (show tyOk (vbl n) (vbl s) = ((vbl s).all wrP && (!Lib.contains (vbl s) [33, 33] && decide (cnt93 (vbl s) ≤ 12))) by rw [HU.out, hnm]; rfl)
    have HT := fun W => Any.strings_Trim_laid Tryz.lays160 (by kernel_rfl) s ⟨#[33, 93]⟩ W (by omega) (by decide) (ascii_of_all (by decide))
    clear hnm HU
    by_cases hall : (vbl s).all wrP = true
    · have ht : vbl (⟨(Lib.trimS s.data.toList [33, 93]).toArray⟩ : ByteArray) = [] := (trim_nil (vbl s)).2 hall
      change ∀ W, Calls _ _ _ W (fun e w' => e = .returned (.string (⟨(Lib.trimS s.data.toList [33, 93]).toArray⟩ : ByteArray)) ∧ _) at HT
      generalize (⟨(Lib.trimS s.data.toList [33, 93]).toArray⟩ : ByteArray) = TR at *
      have e1 := toList_yes ht
      have HU3 := Lib.hid (show tyOk (vbl n) (vbl s) = (!Lib.contains (vbl s) [33, 33] && decide (cnt93 (vbl s) ≤ 12)) by rw [HU2.out, hall]; rfl)
      clear ht hall HU2
      have HC := fun (W : World) m => Tryz.strings_Contains s ⟨#[33, 33]⟩ m W (by omega)
      change ∀ (W : World) m, W.cell? ⟨0, 0, none⟩ = some (.int .i64 m) → Calls _ _ _ W (fun e w' => e = .returned (.bool (Lib.contains (vbl s) [33, 33])) ∧ w' = W) at HC
      go_enter Tryz.func44, Tryz.ntmps44
      go_wp2_with fail
      refine HN.mono ?_
      rintro e w1 ⟨rfl, b1⟩
      obtain ⟨c0, c1, hb⟩ := HF.out w1 b1
      have B1 := Lib.hid b1
      clear b1
      go_wp2_with fail
      refine (HT _).mono ?_
      rintro e w2 ⟨rfl, b2⟩
      have b12 := B1.out.trans (b2.mono B1.out.size)
      obtain ⟨d0, d1, hb2⟩ := HF.out w2 b12
      obtain ⟨m, hm2⟩ := at_maxlen HM.out hb2
      have HC2 := HC w2 m hm2
      clear b2 b12 HT HN
      cases hct : Lib.contains (vbl s) [33, 33] with
      | true =>
        rw [hct] at HC2
        have HR := Lib.hid (show tyOk (vbl n) (vbl s) = false by rw [HU3.out, hct]; rfl)
        clear hct
        go_wp2_with fail
        refine HC2.mono ?_
        rintro e w3 ⟨rfl, rfl⟩
        go_wp2_with fail
        go_ret
        exact boolBelow_of HR.out.symm hb2
      | false =>
        rw [hct] at HC2
        have HR := Lib.hid (show tyOk (vbl n) (vbl s) = decide (cnt93 (vbl s) ≤ 12) by rw [HU3.out, hct]; rfl)
        have HK := Tryz.strings_Count_one s 93 w2
        rw [show Lib.countByte s.data.toList 93 = cnt93 (vbl s) from cnt_eq _] at HK
        clear hct
        generalize cnt93 (vbl s) = c at *
        go_wp2_with fail
        refine HC2.mono ?_
        rintro e w3 ⟨rfl, rfl⟩
        go_wp2_with fail
        refine HK.mono ?_
        rintro e w4 ⟨rfl, rfl⟩
        by_cases hc : c ≤ 12
        · have hd : decide ((c : Int) ≤ 12) = true := decide_eq_true (by omega)
          have HR2 := Lib.hid (show tyOk (vbl n) (vbl s) = true by rw [HR.out]; exact decide_eq_true hc)
          clear hc
          go_wp2_with fail
          go_ret
          exact boolBelow_of HR2.out.symm hb2
        · have hd : decide ((c : Int) ≤ 12) = false := decide_eq_false (by omega)
          have HR2 := Lib.hid (show tyOk (vbl n) (vbl s) = false by rw [HR.out]; exact decide_eq_false hc)
          clear hc
          go_wp2_with fail
          go_ret
          exact boolBelow_of HR2.out.symm hb2
    · have hall : (vbl s).all wrP = false := by simpa using hall
      have ht : vbl (⟨(Lib.trimS s.data.toList [33, 93]).toArray⟩ : ByteArray) ≠ [] := fun h => by
        have := (trim_nil (vbl s)).1 h
        rw [hall] at this
        cases this
      change ∀ W, Calls _ _ _ W (fun e w' => e = .returned (.string (⟨(Lib.trimS s.data.toList [33, 93]).toArray⟩ : ByteArray)) ∧ _) at HT
      generalize (⟨(Lib.trimS s.data.toList [33, 93]).toArray⟩ : ByteArray) = TR at *
      have e1 := toList_no ht
      have HR := Lib.hid (show tyOk (vbl n) (vbl s) = false by rw [HU2.out, hall]; rfl)
      clear ht hall HU2
      go_enter Tryz.func44, Tryz.ntmps44
      go_wp2_with fail
      refine HN.mono ?_
      rintro e w1 ⟨rfl, b1⟩
      obtain ⟨c0, c1, hb⟩ := HF.out w1 b1
      have B1 := Lib.hid b1
      clear b1
      go_wp2_with fail
      refine (HT _).mono ?_
      rintro e w2 ⟨rfl, b2⟩
      obtain ⟨d0, d1, hb2⟩ := HF.out w2 (B1.out.trans (b2.mono B1.out.size))
      clear b2 HT HN
      go_wp2_with fail
      go_ret
      exact boolBelow_of HR.out.symm hb2

end Go.Proofs.YtibkncgfdhflgaaGreatDoor

/-
  A type's text; what value.Type answers.
-/
namespace Go.Proofs.YtibkncgfdhflgaaGreatDoor
open Go.RowKit

def tyTextB (n ws : List UInt8) : List UInt8 := if tyOk n ws then tyText n ws else []
theorem repeat_rep : ∀ c : Nat, Lib.repeatL [91] c = List.replicate c 91
  | 0 => rfl
  | c + 1 => by rw [Lib.repeatL, repeat_rep c, List.replicate_succ]; rfl

/-- What Type answers of a row of n tokens. -/
def TyAns (n : Nat) (w : World) (o : Option (List UInt8 × List UInt8 × List Sk)) (e : Ending) (w' : World) : Prop :=
  Below w.heap.size w w' ∧ match o with
    | none => e = .returned (.tuple #[.agg #[.string ⟨#[]⟩, .string ⟨#[]⟩], .int .i64 0, .bool false])
    | some (nm, ws, r) => e = .returned (.tuple #[.agg #[.string ⟨nm.toArray⟩, .string ⟨ws.toArray⟩], .int .i64 ((n - r.length : Nat) : Int), .bool true])

theorem Bt.twoA {W : World} {B : Nat} (h : Bt W B) (hlt : B < W.heap.size) (c0 c1 : Value) (o : Obj) : (((W.setCell ⟨B, 0, none⟩ c0).setCell ⟨B, 1, none⟩ c1).alloc o).cell? ⟨B, 0, none⟩ = some c0 ∧ (((W.setCell ⟨B, 0, none⟩ c0).setCell ⟨B, 1, none⟩ c1).alloc o).cell? ⟨B, 1, none⟩ = some c1 := by
  obtain ⟨k0, k1⟩ := h.two c0 c1
  have c : ∀ j, (((W.setCell ⟨B, 0, none⟩ c0).setCell ⟨B, 1, none⟩ c1).alloc o).cell? ⟨B, j, none⟩ = ((W.setCell ⟨B, 0, none⟩ c0).setCell ⟨B, 1, none⟩ c1).cell? ⟨B, j, none⟩ := fun j => World.cell?_of_block (a := ⟨B, j, none⟩) (Below.heap_alloc _ _ _ (by rw [size_two]; exact hlt))
  exact ⟨(c 0).trans k0, (c 1).trans k1⟩

set_option maxHeartbeats 4000000 in
set_option maxRecDepth 100000 in
theorem valType_any {a : Option Addr} {cap : Nat} {ts : List Tk} (w : World) (ht : TkAt w a ts) (hc : ts.length ≤ cap) (hs : ts.length ≤ 9000) (hz : ∀ t ∈ ts, t.s.length ≤ 1000000) :
    Calls Tryz.prog 174 #[.slice a ts.length cap, .int .i64 0] w (TyAns ts.length w (typeP (ts.map strip))) := by
  have hb0 : Below w.heap.size w (w.alloc (.cells #[.string ⟨#[]⟩, .string ⟨#[]⟩] 47)) := (Below.refl _ w).alloc (Nat.le_refl _) _
  have HR := readerAt_zero a ts.length cap (w.alloc (.cells #[.string ⟨#[]⟩, .string ⟨#[]⟩] 47))
  have hs0 : (w.alloc (.cells #[.string ⟨#[]⟩, .string ⟨#[]⟩] 47)).heap.size = w.heap.size + 1 := by simp
  have hr := rv_new hb0 ht hc hs hz
  rw [hs0] at hr HR
  have hX : Bt ((w.alloc (.cells #[.string ⟨#[]⟩, .string ⟨#[]⟩] 47)).alloc (.cells #[.slice a ts.length cap, .int .i64 0] 199)) w.heap.size := (Bt.new w).keep (Below.heap_alloc _ _ _ (by simp))
  have hb1 : Below w.heap.size w ((w.alloc (.cells #[.string ⟨#[]⟩, .string ⟨#[]⟩] 47)).alloc (.cells #[.slice a ts.length cap, .int .i64 0] 199)) := hb0.alloc (by simp) _
  have hs1 : ((w.alloc (.cells #[.string ⟨#[]⟩, .string ⟨#[]⟩] 47)).alloc (.cells #[.slice a ts.length cap, .int .i64 0] 199)).heap.size = w.heap.size + 2 := by simp
  have HV := typeOf_any (R := w.heap.size + 1) (a := a) (cap := cap) (ts := ts) (p := 0) _ hr
  rw [ahead_zero] at HV
  clear hr hb0 hs0
  cases ho : typeP (ts.map strip) with
  | none =>
    rw [ho] at HV
    go_enter Tryz.func174, Tryz.ntmps174
    go_wp2_with fail
    refine HR.mono ?_
    rintro e w1 ⟨rfl, rfl⟩
    go_wp2_with fail
    refine HV.mono ?_
    rintro e w2 ⟨rfl, ha⟩
    have hz2 := ha.size
    rw [hs1] at hz2
    have hlt2 : w.heap.size < w2.heap.size := by omega
    have hx2 : Bt w2 w.heap.size := hX.keep (ha.block _ (by rw [hs1]; omega) (by omega))
    have ha2 : Below w.heap.size w w2 := hb1.trans ((ha.mono (by rw [hs1]; omega)).below (by omega))
    have HF := Lib.hid (fun c0 c1 o => hx2.twoA hlt2 c0 c1 o)
    have HA := Lib.hid ha2
    obtain ⟨r0, r1, rf⟩ := hx2
    clear ha ha2 HV HR hX hb1 hs1 hz2 ho
    go_wp2_with fail
    obtain ⟨k0, k1⟩ := HF.out (.string ⟨#[]⟩) (.string ⟨#[]⟩) (.cells #[.string ⟨#[]⟩, .string ⟨#[]⟩] 47)
    refine bodyPost_ret (v := .tuple #[.agg #[.string ⟨#[]⟩, .string ⟨#[]⟩], .int .i64 0, .bool false]) (by simp [results, Tryz.results174, go_sem, k0, k1]) rfl ?_
    exact ⟨((HA.out.setCell (p := ⟨w.heap.size, 0, none⟩) (Nat.le_refl _) _).setCell (p := ⟨w.heap.size, 1, none⟩) (Nat.le_refl _) _).alloc (by rw [size_two]; omega) _, rfl⟩
  | some o =>
    obtain ⟨nm, ws, r⟩ := o
    rw [ho] at HV
    go_enter Tryz.func174, Tryz.ntmps174
    go_wp2_with fail
    refine HR.mono ?_
    rintro e w1 ⟨rfl, rfl⟩
    go_wp2_with fail
    refine HV.mono ?_
    rintro e w2 ⟨rfl, q, hl, hr, ha⟩
    have hz2 := ha.size
    rw [hs1] at hz2
    have hlt2 : w.heap.size < w2.heap.size := by omega
    have hx2 : Bt w2 w.heap.size := hX.keep (ha.block _ (by rw [hs1]; omega) (by omega))
    have ha2 : Below w.heap.size w w2 := hb1.trans ((ha.mono (by rw [hs1]; omega)).below (by omega))
    have hq : ts.length - r.length = q := by
      have := hr.hp
      rw [← hl, ahead_len]; omega
    have HQ := Lib.hid hq
    have c1 := hr.c1
    have hRlt : w.heap.size + 1 < w2.heap.size := by omega
    have HF := Lib.hid (fun c0 c1 o => hx2.twoA hlt2 c0 c1 o)
    have HA := Lib.hid ha2
    obtain ⟨r0, r1, rf⟩ := hx2
    clear ha ha2 HV HR hX hb1 hs1 hz2 ho hq hl hr
    go_upto_region 5 with fail
    go_region
    all_goals
      go_wp2_with fail
      obtain ⟨k0, k1⟩ := HF.out (.string ⟨nm.toArray⟩) (.string ⟨ws.toArray⟩) (.cells #[.string ⟨nm.toArray⟩, .string ⟨ws.toArray⟩] 47)
      refine bodyPost_ret (v := .tuple #[.agg #[.string ⟨nm.toArray⟩, .string ⟨ws.toArray⟩], .int .i64 q, .bool true]) (by simp [results, Tryz.results174, go_sem, k0, k1]) rfl ?_
      exact ⟨below_drewN (((HA.out.setCell (p := ⟨w.heap.size, 0, none⟩) (Nat.le_refl _) _).setCell (p := ⟨w.heap.size, 1, none⟩) (Nat.le_refl _) _).alloc (by rw [size_two]; omega) _) _, by rw [← HQ.out]⟩

end Go.Proofs.YtibkncgfdhflgaaGreatDoor

/-
  What value.Value and value.Type answer, from any token of a row on.
-/
namespace Go.Proofs.YtibkncgfdhflgaaGreatDoor
open Go.RowKit

set_option maxHeartbeats 1000000 in
theorem readerAt_at (a : Option Addr) (n cap p : Nat) (w : World) (hp : p ≤ n) : Calls Tryz.prog 186 #[.slice a n cap, .int .i64 (p : Int)] w fun e w' => e = .returned (.pointer (some ⟨w.heap.size, 0, none⟩)) ∧ w' = w.alloc (.cells #[.slice a n cap, .int .i64 (p : Int)] 199) := by
  have hd0 : decide ((p : Int) < 0) = false := decide_eq_false (by omega)
  have hd : decide (n < p) = false := decide_eq_false (by omega)
  clear hp
  go_enter Tryz.func186, Tryz.ntmps186
  go_wp2_with fail
  go_ret
  exact ⟨rfl, rfl⟩

theorem rv_at {w W : World} {a : Option Addr} {cap : Nat} {ts : List Tk} {p : Nat} (hp : p ≤ ts.length) (hb : Below w.heap.size w W) (ht : TkAt w a ts) (hc : ts.length ≤ cap) (hs : ts.length ≤ 9000) (hz : ∀ t ∈ ts, t.s.length ≤ 1000000) : Rv (W.alloc (.cells #[.slice a ts.length cap, .int .i64 (p : Int)] 199)) W.heap.size a cap ts p := by
  have hbk : (W.alloc (.cells #[.slice a ts.length cap, .int .i64 (p : Int)] 199)).heap[W.heap.size]? = some (.cells #[.slice a ts.length cap, .int .i64 (p : Int)] 199 (0, 0)) := heap_alloc_new _ _
  have hsz := hb.size
  refine ⟨Lib.cell_of_heap hbk 0, Lib.cell_of_heap hbk 1, fun j => by go_simp, hp, hc, hs, hz, fun h0 => ?_⟩
  obtain ⟨g, e, hcell⟩ := ht h0
  obtain ⟨u, hu⟩ := tkCells_first h0
  have hg := cell_lt (hcell 0 u hu)
  refine ⟨g, e, by omega, fun j u hj => ?_⟩
  rw [World.cell?_of_block (a := ⟨g, j, none⟩) (Below.heap_alloc _ _ _ (by show g < W.heap.size; omega))]
  exact (World.cell?_of_block (a := ⟨g, j, none⟩) (hb.block g hg)).trans (hcell j u hj)

/-- What Type answers of a row of n tokens, from place p on. -/
def TyAnsP (p n : Nat) (w : World) (o : Option (List UInt8 × List UInt8 × List Sk)) (e : Ending) (w' : World) : Prop :=
  Below w.heap.size w w' ∧ match o with
    | none => e = .returned (.tuple #[.agg #[.string ⟨#[]⟩, .string ⟨#[]⟩], .int .i64 (p : Int), .bool false])
    | some (nm, ws, r) => e = .returned (.tuple #[.agg #[.string ⟨nm.toArray⟩, .string ⟨ws.toArray⟩], .int .i64 ((n - r.length : Nat) : Int), .bool true])

set_option maxHeartbeats 4000000 in
set_option maxRecDepth 100000 in
theorem valValue_at {p : Nat} {a : Option Addr} {cap : Nat} {ts : List Tk} (w : World) (hp : p ≤ ts.length) (ht : TkAt w a ts) (hc : ts.length ≤ cap) (hs : ts.length ≤ 9000) (hz : ∀ t ∈ ts, t.s.length ≤ 1000000) :
    Calls Tryz.prog 188 #[.slice a ts.length cap, .int .i64 (p : Int)] w (ValAns ts.length w (pvT 12 (ahead ts p))) := by
  have hb0 : Below w.heap.size w (w.alloc (.cells #[.int .i64 0, .string ⟨#[]⟩, .slice none 0 0, .slice none 0 0] 45)) := (Below.refl _ w).alloc (Nat.le_refl _) _
  have HR := readerAt_at a ts.length cap p (w.alloc (.cells #[.int .i64 0, .string ⟨#[]⟩, .slice none 0 0, .slice none 0 0] 45)) hp
  have hs0 : (w.alloc (.cells #[.int .i64 0, .string ⟨#[]⟩, .slice none 0 0, .slice none 0 0] 45)).heap.size = w.heap.size + 1 := by simp
  have hr := rv_at hp hb0 ht hc hs hz
  rw [hs0] at hr HR
  have hX : Bx ((w.alloc (.cells #[.int .i64 0, .string ⟨#[]⟩, .slice none 0 0, .slice none 0 0] 45)).alloc (.cells #[.slice a ts.length cap, .int .i64 (p : Int)] 199)) w.heap.size := (Bx.new w).keep (Below.heap_alloc _ _ _ (by simp))
  have hb1 : Below w.heap.size w ((w.alloc (.cells #[.int .i64 0, .string ⟨#[]⟩, .slice none 0 0, .slice none 0 0] 45)).alloc (.cells #[.slice a ts.length cap, .int .i64 (p : Int)] 199)) := hb0.alloc (by simp) _
  have hs1 : ((w.alloc (.cells #[.int .i64 0, .string ⟨#[]⟩, .slice none 0 0, .slice none 0 0] 45)).alloc (.cells #[.slice a ts.length cap, .int .i64 (p : Int)] 199)).heap.size = w.heap.size + 2 := by simp
  have HV := vvalue_any (R := w.heap.size + 1) (a := a) (cap := cap) (ts := ts) 12 1 rfl p _ hr
  clear hr hb0 hs0 hp
  generalize pvT 12 (ahead ts p) = RV at *
  obtain ⟨x, l', er⟩ := RV
  go_enter Tryz.func188, Tryz.ntmps188
  go_wp2_with fail
  refine HR.mono ?_
  rintro e w1 ⟨rfl, rfl⟩
  go_wp2_with fail
  refine HV.mono ?_
  rintro e w2 ⟨⟨q, hl, hr, ha⟩, hv⟩
  dsimp only at hl hv
  have hz2 := ha.size
  rw [hs1] at hz2
  have hlt2 : w.heap.size < w2.heap.size := by omega
  have hx2 : Bx w2 w.heap.size := hX.keep (ha.block _ (by rw [hs1]; omega) (by omega))
  have ha2 : Below w.heap.size w w2 := hb1.trans ((ha.mono (by rw [hs1]; omega)).below (by omega))
  have hq : ts.length - l'.length = q := by
    have := hr.hp
    rw [← hl, ahead_len]; omega
  obtain ⟨v, rfl, ⟨k, s, an, ln, cn, ap, lp, cp, rfl⟩, hfin⟩ : ∃ v, e = .returned (.tuple #[v, .int .i64 er]) ∧ (∃ k s an ln cn ap lp cp, v = .agg #[.int .i64 k, .string s, .slice an ln cn, .slice ap lp cp]) ∧
      (if er = 0 then RdD w2 (fun b => w.heap.size + 2 ≤ b ∧ b < w2.heap.size) 13 x v else v = leaf 0 ⟨#[]⟩) := by
    by_cases he : er = 0
    · subst he
      rw [if_pos rfl] at hv
      obtain ⟨v, rfl, hR⟩ := hv
      have hs : ∃ k s an ln cn ap lp cp, v = .agg #[.int .i64 k, .string s, .slice an ln cn, .slice ap lp cp] := by
        obtain ⟨an, cn, ap, cp, e⟩ := hR.shape
        exact ⟨_, _, _, _, _, _, _, _, e⟩
      refine ⟨v, rfl, hs, ?_⟩
      rw [if_pos rfl]
      rw [hs1] at hR
      exact hR
    · rw [if_neg he] at hv
      refine ⟨_, hv.1, ⟨_, _, _, _, _, _, _, _, rfl⟩, ?_⟩
      rw [if_neg he]
  have HQ := Lib.hid hq
  have c1 := hr.c1
  have hRlt : w.heap.size + 1 < w2.heap.size := by omega
  have HF := Lib.hid (fun c0 c1 c2 c3 o => bx_fourA hx2 c0 c1 c2 c3 o)
  have HA := Lib.hid ha2
  have HFIN := Lib.hid hfin
  obtain ⟨r0, r1, r2, r3, rf⟩ := hx2
  clear hv hq ha ha2 hr hl HV HR hX hb1 hs1 hz2 hfin
  go_upto_region 3 with fail
  go_region
  all_goals
    go_wp2_with fail
    obtain ⟨k0, k1, k2, k3⟩ := HF.out (.int .i64 k) (.string s) (.slice an ln cn) (.slice ap lp cp) (.cells #[.int .i64 k, .string s, .slice an ln cn, .slice ap lp cp] 45)
    refine bodyPost_ret (v := .tuple #[.agg #[.int .i64 k, .string s, .slice an ln cn, .slice ap lp cp], .int .i64 q, .int .i64 er]) (by simp [results, Tryz.results188, go_sem, k0, k1, k2, k3]) rfl ?_
    refine ⟨below_drewN ((below_four HA.out (Nat.le_refl _) _ _ _ _).alloc (by rw [size_four]; omega) _) _, _, by rw [← HQ.out], ⟨_, _, _, _, _, _, _, _, rfl⟩, valAns_fin HFIN.out (fun b hb hne => ?_) ?_⟩
    · exact (Below.heap_alloc _ _ _ (by rw [size_four]; exact hb)).trans (heap_four _ _ _ _ _ _ b hne)
    · show w2.heap.size ≤ (World.alloc _ _).heap.size
      rw [show ∀ (W : World) (o : Obj), (W.alloc o).heap.size = W.heap.size + 1 from fun W o => by simp, size_four]
      omega

set_option maxHeartbeats 4000000 in
set_option maxRecDepth 100000 in
theorem valType_at {p : Nat} {a : Option Addr} {cap : Nat} {ts : List Tk} (w : World) (hp : p ≤ ts.length) (ht : TkAt w a ts) (hc : ts.length ≤ cap) (hs : ts.length ≤ 9000) (hz : ∀ t ∈ ts, t.s.length ≤ 1000000) :
    Calls Tryz.prog 174 #[.slice a ts.length cap, .int .i64 (p : Int)] w (TyAnsP p ts.length w (typeP (ahead ts p))) := by
  have hb0 : Below w.heap.size w (w.alloc (.cells #[.string ⟨#[]⟩, .string ⟨#[]⟩] 47)) := (Below.refl _ w).alloc (Nat.le_refl _) _
  have HR := readerAt_at a ts.length cap p (w.alloc (.cells #[.string ⟨#[]⟩, .string ⟨#[]⟩] 47)) hp
  have hs0 : (w.alloc (.cells #[.string ⟨#[]⟩, .string ⟨#[]⟩] 47)).heap.size = w.heap.size + 1 := by simp
  have hr := rv_at hp hb0 ht hc hs hz
  rw [hs0] at hr HR
  have hX : Bt ((w.alloc (.cells #[.string ⟨#[]⟩, .string ⟨#[]⟩] 47)).alloc (.cells #[.slice a ts.length cap, .int .i64 (p : Int)] 199)) w.heap.size := (Bt.new w).keep (Below.heap_alloc _ _ _ (by simp))
  have hb1 : Below w.heap.size w ((w.alloc (.cells #[.string ⟨#[]⟩, .string ⟨#[]⟩] 47)).alloc (.cells #[.slice a ts.length cap, .int .i64 (p : Int)] 199)) := hb0.alloc (by simp) _
  have hs1 : ((w.alloc (.cells #[.string ⟨#[]⟩, .string ⟨#[]⟩] 47)).alloc (.cells #[.slice a ts.length cap, .int .i64 (p : Int)] 199)).heap.size = w.heap.size + 2 := by simp
  have HV := typeOf_any (R := w.heap.size + 1) (a := a) (cap := cap) (ts := ts) (p := p) _ hr
  clear hr hb0 hs0 hp
  cases ho : typeP (ahead ts p) with
  | none =>
    rw [ho] at HV
    go_enter Tryz.func174, Tryz.ntmps174
    go_wp2_with fail
    refine HR.mono ?_
    rintro e w1 ⟨rfl, rfl⟩
    go_wp2_with fail
    refine HV.mono ?_
    rintro e w2 ⟨rfl, ha⟩
    have hz2 := ha.size
    rw [hs1] at hz2
    have hlt2 : w.heap.size < w2.heap.size := by omega
    have hx2 : Bt w2 w.heap.size := hX.keep (ha.block _ (by rw [hs1]; omega) (by omega))
    have ha2 : Below w.heap.size w w2 := hb1.trans ((ha.mono (by rw [hs1]; omega)).below (by omega))
    have HF := Lib.hid (fun c0 c1 o => hx2.twoA hlt2 c0 c1 o)
    have HA := Lib.hid ha2
    obtain ⟨r0, r1, rf⟩ := hx2
    clear ha ha2 HV HR hX hb1 hs1 hz2 ho
    go_wp2_with fail
    obtain ⟨k0, k1⟩ := HF.out (.string ⟨#[]⟩) (.string ⟨#[]⟩) (.cells #[.string ⟨#[]⟩, .string ⟨#[]⟩] 47)
    refine bodyPost_ret (v := .tuple #[.agg #[.string ⟨#[]⟩, .string ⟨#[]⟩], .int .i64 (p : Int), .bool false]) (by simp [results, Tryz.results174, go_sem, k0, k1]) rfl ?_
    exact ⟨((HA.out.setCell (p := ⟨w.heap.size, 0, none⟩) (Nat.le_refl _) _).setCell (p := ⟨w.heap.size, 1, none⟩) (Nat.le_refl _) _).alloc (by rw [size_two]; omega) _, rfl⟩
  | some o =>
    obtain ⟨nm, ws, r⟩ := o
    rw [ho] at HV
    go_enter Tryz.func174, Tryz.ntmps174
    go_wp2_with fail
    refine HR.mono ?_
    rintro e w1 ⟨rfl, rfl⟩
    go_wp2_with fail
    refine HV.mono ?_
    rintro e w2 ⟨rfl, q, hl, hr, ha⟩
    have hz2 := ha.size
    rw [hs1] at hz2
    have hlt2 : w.heap.size < w2.heap.size := by omega
    have hx2 : Bt w2 w.heap.size := hX.keep (ha.block _ (by rw [hs1]; omega) (by omega))
    have ha2 : Below w.heap.size w w2 := hb1.trans ((ha.mono (by rw [hs1]; omega)).below (by omega))
    have hq : ts.length - r.length = q := by
      have := hr.hp
      rw [← hl, ahead_len]; omega
    have HQ := Lib.hid hq
    have c1 := hr.c1
    have hRlt : w.heap.size + 1 < w2.heap.size := by omega
    have HF := Lib.hid (fun c0 c1 o => hx2.twoA hlt2 c0 c1 o)
    have HA := Lib.hid ha2
    obtain ⟨r0, r1, rf⟩ := hx2
    clear ha ha2 HV HR hX hb1 hs1 hz2 ho hq hl hr
    go_upto_region 5 with fail
    go_region
    all_goals
      go_wp2_with fail
      obtain ⟨k0, k1⟩ := HF.out (.string ⟨nm.toArray⟩) (.string ⟨ws.toArray⟩) (.cells #[.string ⟨nm.toArray⟩, .string ⟨ws.toArray⟩] 47)
      refine bodyPost_ret (v := .tuple #[.agg #[.string ⟨nm.toArray⟩, .string ⟨ws.toArray⟩], .int .i64 q, .bool true]) (by simp [results, Tryz.results174, go_sem, k0, k1]) rfl ?_
      exact ⟨below_drewN (((HA.out.setCell (p := ⟨w.heap.size, 0, none⟩) (Nat.le_refl _) _).setCell (p := ⟨w.heap.size, 1, none⟩) (Nat.le_refl _) _).alloc (by rw [size_two]; omega) _) _, by rw [← HQ.out]⟩

end Go.Proofs.YtibkncgfdhflgaaGreatDoor
