/-
  sdl's parser: is there a type of that name? the roots that are not told.
-/
import Derived.Test.YtkahnlgedacppaaGreatDoorMSx4
namespace Go.Proofs.YtkahnlgedacppaaGreatDoor
open Go.RowKit Go.Maps Go.WideMaps

def isMu (t : TypT) : Bool := t.nm == mutN
set_option maxHeartbeats 2000000 in
set_option maxRecDepth 100000 in
theorem isMut_any {D : Nat → Prop} (t : TypT) (es : List Value) (w0 w : World) (hE : TypE w0 D t es) : Calls Tryz.prog 151 #[.agg es.toArray] w fun e w' => e = .returned (.bool (isMu t)) ∧ Below w.heap.size w w' := by
  obtain ⟨_, vn, vf, vi, rfl, hn, hf, hi⟩ := hE
  obtain ⟨an, cn, rfl⟩ := hn.shape
  obtain ⟨af, cf, rfl⟩ := hf.shape
  obtain ⟨ai, ci, rfl⟩ := hi.shape
  obtain ⟨k, nm, names, flds, ins⟩ := t
  dsimp only
  clear hn hf hi
  have hb0 : Below w.heap.size w (w.alloc (.cells #[.int .i64 (k : Int), .string ⟨nm.toArray⟩, .slice an names.length cn, .slice af flds.length cf, .slice ai ins.length ci] 45)) := (Below.refl _ w).alloc (Nat.le_refl _) _
  cases hT : nm == mutN with
  | true =>
    have o1 : nm = [77, 117, 116, 97, 116, 105, 111, 110] := by simpa [mutN] using hT
    subst o1
    go_enter Tryz.func151, Tryz.ntmps151
    go_wp2_with fail
    go_ret
    exact ⟨by first | done | rfl, hb0⟩
  | false =>
    have o2 : (nm == [77, 117, 116, 97, 116, 105, 111, 110]) = false := hT
    have o1 : ¬ nm = [77, 117, 116, 97, 116, 105, 111, 110] := by simpa using o2
    have HB := Lib.hid (show isMu ⟨k, nm, names, flds, ins⟩ = false from hT)
    go_enter Tryz.func151, Tryz.ntmps151
    go_wp2_with fail
    go_ret
    exact ⟨by rw [HB.out]; first | done | rfl, hb0⟩

theorem any_take {xs : List TypT} {i : Nat} {t : TypT} (ht : xs[i]? = some t) (h : (xs.take i).any isMu = false) : (isMu t = true → xs.any isMu = true) ∧ (isMu t = false → (xs.take (i + 1)).any isMu = false) := by
  have hi := (List.getElem?_eq_some_iff.1 ht).1
  refine ⟨fun e => List.any_eq_true.2 ⟨t, List.mem_of_getElem? ht, e⟩, fun e => ?_⟩
  have he := (List.getElem?_eq_some_iff.1 ht).2
  rw [List.take_succ_eq_append_getElem hi, List.any_append, h, he]
  simp [e]

set_option maxHeartbeats 4000000 in
set_option maxRecDepth 100000 in
theorem indexT_any {D : Nat → Prop} {xs : List TypT} {v : Value} (w : World) (hr : RowD TypE 5 w D xs v) (hD : ∀ b, D b → b < w.heap.size) (hl : xs.length ≤ 9000) :
    Calls Tryz.prog 190 #[v, .func (.func 151) #[] #[]] w fun e w' => (∃ r : Int, e = .returned (.int .i64 r) ∧ decide (0 ≤ r) = xs.any isMu) ∧ Below w.heap.size w w' := by
  obtain ⟨a, cap, rfl, _, hcap, hrow⟩ := hr
  have HROW := Lib.hid hrow
  have HD := Lib.hid hD
  clear hrow hD
  go_enter Tryz.func190, Tryz.ntmps190
  go_wp2_with fail
  go_loopg [5, 8] xs.length (fun j _ v8 wr => ∃ i : Nat, v8 = .int .i64 (i : Int) ∧ i ≤ xs.length ∧ j = xs.length - i ∧ Hid ((xs.take i).any isMu = false) ∧ Below w.heap.size w wr)
  case atStart => exact ⟨0, rfl, Nat.zero_le _, rfl, Lib.hid rfl, Below.refl _ _⟩
  case round =>
    obtain ⟨i, rfl, hi, hj, HIT, hb⟩ := hrel
    have HB := Lib.hid hb
    have hw : IntKind.i64.wrap ((i : Int) + 1) = (i : Int) + 1 := IntWalk.i64_in _ (by omega)
    by_cases hlt : i < xs.length
    · have hd : decide ((i : Int) < (xs.length : Int)) = true := decide_eq_true (by omega)
      have hd2 : decide (i < xs.length) = true := decide_eq_true hlt
      obtain ⟨g, off, rfl, hDg, hel⟩ := HROW.out (by omega)
      have hx : xs[i]? = some xs[i] := List.getElem?_eq_getElem hlt
      obtain ⟨cs, hcl, hcs, hE⟩ := hel i _ hx
      have HAT := Lib.hid (any_take hx HIT.out)
      have hgl : g < wr.heap.size := Nat.lt_of_lt_of_le (HD.out g hDg) hb.size
      have hce : ∀ o, wr.cell? ⟨g, o, none⟩ = w.cell? ⟨g, o, none⟩ := fun o => World.cell?_of_block (a := ⟨g, o, none⟩) (hb.block g (HD.out g hDg))
      have HT := isMut_any xs[i] cs w wr hE
      generalize xs[i] = x at *
      obtain ⟨_, vn, vf, vi, rfl, hn1, hf1, hi1⟩ := hE
      obtain ⟨an, cn, rfl⟩ := hn1.shape
      obtain ⟨af, cf, rfl⟩ := hf1.shape
      obtain ⟨ai, ci, rfl⟩ := hi1.shape
      have k0 : wr.cell? ⟨g, off + i * 5, none⟩ = some (.int .i64 (x.k : Int)) := (hce _).trans (hcs 0 _ rfl)
      have k1 : wr.cell? ⟨g, off + i * 5 + 1, none⟩ = some (.string ⟨x.nm.toArray⟩) := (hce _).trans (hcs 1 _ rfl)
      have k2 : wr.cell? ⟨g, off + i * 5 + 2, none⟩ = some (.slice an x.names.length cn) := (hce _).trans (hcs 2 _ rfl)
      have k3 : wr.cell? ⟨g, off + i * 5 + 3, none⟩ = some (.slice af x.flds.length cf) := (hce _).trans (hcs 3 _ rfl)
      have k4 : wr.cell? ⟨g, off + i * 5 + 4, none⟩ = some (.slice ai x.ins.length ci) := (hce _).trans (hcs 4 _ rfl)
      have hicp : i < cap := by omega
      clear hb hel hcs hce hcl hx hn1 hf1 hi1 HROW HIT
      cases hv : isMu x with
      | false =>
        rw [hv] at HT
        have HV := Lib.hid (HAT.out.2 hv)
        clear hv HAT
        go_wp2_with fail
        refine HT.mono ?_
        rintro e w2 ⟨rfl, hb2⟩
        have HB2 := Lib.hid (HB.out.trans (hb2.mono HB.out.size))
        clear hb2 HT
        go_wp2_with fail
        go_roundg (xs.length - (i + 1))
        case measure => omega
        case rel => exact ⟨i + 1, by simp, by omega, rfl, HV, HB2.out⟩
      | true =>
        rw [hv] at HT
        have HV := Lib.hid (HAT.out.1 hv)
        clear hv HAT
        go_wp2_with fail
        refine HT.mono ?_
        rintro e w2 ⟨rfl, hb2⟩
        have HB2 := Lib.hid (HB.out.trans (hb2.mono HB.out.size))
        clear hb2 HT
        go_wp2_with fail
        go_ret
        exact ⟨⟨(i : Int), rfl, by rw [HV.out]; exact decide_eq_true (by omega)⟩, HB2.out⟩
    · have hd : decide ((i : Int) < (xs.length : Int)) = false := decide_eq_false (by omega)
      have hd2 : decide (i < xs.length) = false := decide_eq_false hlt
      have HV := Lib.hid (show xs.any isMu = false by
        have := HIT.out
        rwa [List.take_of_length_le (by omega)] at this)
      clear hb
      go_wp2_with fail
      go_ret
      exact ⟨⟨-1, rfl, by rw [HV.out]; rfl⟩, HB.out⟩

set_option maxHeartbeats 2000000 in
set_option maxRecDepth 100000 in
theorem containsT_any {D : Nat → Prop} {xs : List TypT} {v : Value} (w : World) (hr : RowD TypE 5 w D xs v) (hD : ∀ b, D b → b < w.heap.size) (hl : xs.length ≤ 9000) :
    Calls Tryz.prog 150 #[v, .func (.func 151) #[] #[]] w fun e w' => e = .returned (.bool (xs.any isMu)) ∧ Below w.heap.size w w' := by
  have HI := indexT_any w hr hD hl
  obtain ⟨a, cap, rfl⟩ := hr.shape
  generalize xs.any isMu = bb at *
  clear hr hD hl
  go_enter Tryz.func150, Tryz.ntmps150
  go_wp2_with fail
  refine HI.mono ?_
  rintro e w1 ⟨⟨r, rfl, hd⟩, hb⟩
  have HDD := Lib.hid hd
  clear hd HI
  go_wp2_with fail
  go_ret
  exact ⟨by rw [← HDD.out]; rfl, hb⟩

set_option maxHeartbeats 4000000 in
set_option maxRecDepth 100000 in
theorem sDefault_any {B : SdB} {b : Bool} {x : SchT} {s : Ms} {vt : Value} {ct : List Value} (W : World) (h : Sx B b x s vt ct W) :
    Calls Tryz.prog 92 #[.pointer (some ⟨B.c.Q, 0, none⟩)] W (SxAns B b (⟨queryN, if x.types.any isMu then mutN else x.mu, x.types⟩, s) W) := by
  have S1 := (h.root queryN (by decide)).1
  obtain ⟨q0, q1, q2, q3, q4, qf, l00⟩ := blk5s h.blk
  obtain ⟨a0, a1, a2, a3, a4, af, al⟩ := blk5s S1.1.blk
  obtain ⟨aL, cL, rfl, hcL, _⟩ := fresh_row h.row.own
  have HC := containsT_any _ (S1.1.row.done typOk (by have := h.len; show x.types.length ≤ _; omega)) (fun b hb => hb.2) (by have := h.len; show x.types.length ≤ _; omega)
  dsimp only at HC
  have HS := Lib.hid S1
  clear S1 h
  unfold queryN at HC a0 a1 a2 a3 a4
  generalize x.types.any isMu = bb at *
  cases bb with
  | true =>
    simp only [reduceIte]
    go_enter Tryz.func92, Tryz.ntmps92
    go_wp2_with fail
    refine HC.mono ?_
    rintro e w1 ⟨rfl, b1⟩
    have T1 := HS.out.1.below b1
    have hbl := HS.out.2.trans T1.2
    have S2 := (T1.1.root mutN (by decide)).2
    obtain ⟨d0, d1, d2, d3, d4, df, dl⟩ := blk5s T1.1.blk
    have HT := Lib.hid (And.intro T1.1 hbl)
    have HS2 := Lib.hid (And.intro S2.1 (hbl.trans S2.2))
    clear T1 S2 b1 HC hbl a0 a1 a2 a3 a4 af q0 q1 q2 q3 q4 qf
    unfold mutN at HS2
    go_wp2_with fail
    go_end0
    exact ⟨rfl, ⟨_, _, HS2.out.1⟩, HS2.out.2⟩
  | false =>
    simp only [reduceIte, Bool.false_eq_true]
    go_enter Tryz.func92, Tryz.ntmps92
    go_wp2_with fail
    refine HC.mono ?_
    rintro e w1 ⟨rfl, b1⟩
    have T1 := HS.out.1.below b1
    have hbl := HS.out.2.trans T1.2
    have S2 := (T1.1.root mutN (by decide)).2
    obtain ⟨d0, d1, d2, d3, d4, df, dl⟩ := blk5s T1.1.blk
    have HT := Lib.hid (And.intro T1.1 hbl)
    have HS2 := Lib.hid (And.intro S2.1 (hbl.trans S2.2))
    clear T1 S2 b1 HC hbl a0 a1 a2 a3 a4 af q0 q1 q2 q3 q4 qf
    go_wp2_with fail
    go_end0
    exact ⟨rfl, ⟨_, _, HT.out.1⟩, HT.out.2⟩

end Go.Proofs.YtkahnlgedacppaaGreatDoor
/-
  sdl's parser: all definitions.
-/
namespace Go.Proofs.YtkahnlgedacppaaGreatDoor
open Go.RowKit Go.Maps Go.WideMaps

theorem sdfM_less (z : Nat) (b : Bool) (x : SchT) (s : Ms) (hb : Bad s) (h0 : 0 < s.l.length) : (sdfM z b x s).2.l.length < s.l.length := by
  have ht := (txM_fwd s).le
  have he : s.er = 0 := Classical.byContradiction fun h => by rw [hb h] at h0; exact absurd h0 (by decide)
  have hf : ∀ {g : List UInt8}, g ≠ [] → nxN (hdT (txM s).l) = g → ∀ {s' : Ms}, Fwd (tlM (txM s)) s' → s'.l.length < s.l.length := fun hg hw s' hs => by
    have h1 := (wd_tl z hg hw).2
    have h2 := hs.le
    omega
  by_cases k0 : nxN (hdT (txM s).l) = schemaS ∧ b = true
  · obtain ⟨k0, rfl⟩ := k0
    rw [sdf_schema _ _ _ k0]
    exact hf (by decide) k0 (rooM_fwd z x _)
  by_cases k1 : nxN (hdT (txM s).l) = scalarS
  · rw [sdf_scalarS _ _ _ _ k1]
    exact hf (by decide) k1 (sclM_fwd z _)
  by_cases k2 : nxN (hdT (txM s).l) = typeS
  · rw [sdf_typeS _ _ _ _ k2]
    exact hf (by decide) k2 (objM_fwd z _)
  by_cases k3 : nxN (hdT (txM s).l) = faceS
  · rw [sdf_faceS _ _ _ _ k3]
    exact hf (by decide) k3 (facM_fwd z _)
  by_cases k4 : nxN (hdT (txM s).l) = unionS
  · rw [sdf_unionS _ _ _ _ k4]
    exact hf (by decide) k4 (uniM_fwd z _)
  by_cases k5 : nxN (hdT (txM s).l) = enumS
  · rw [sdf_enumS _ _ _ _ k5]
    exact hf (by decide) k5 (enuM_fwd z _)
  by_cases k6 : nxN (hdT (txM s).l) = inputS
  · rw [sdf_inputS _ _ _ _ k6]
    exact hf (by decide) k6 (iptM_fwd z _)
  rw [sdf_none _ _ _ _ (fun e => by
    cases b with
    | false => rfl
    | true => exact absurd ⟨e, rfl⟩ k0) k1 k2 k3 k4 k5 k6]
  show (failM z 2 (txM s)).l.length < _
  have hx : (txM s).er = 0 := by
    unfold txM
    split
    · exact he
    · exact he
  unfold failM
  rw [if_pos hx]
  exact h0

/-- What remains of the loop over definitions. -/
def SgRel (B : SdB) (w : World) (RES : SchT × Ms) (j : Nat) (wr : World) : Prop :=
  ∃ b x s vt ct, Sx B b x s vt ct wr ∧ Below B.n w wr ∧ s.l.length < j ∧ sgoM B.c.z j b x s = RES

set_option maxHeartbeats 8000000 in
set_option maxRecDepth 100000 in
theorem sDefs_any {B : SdB} {s : Ms} {vt : Value} {ct : List Value} (W : World) (h : Sx B true schZ s vt ct W) :
    Calls Tryz.prog 41 #[.pointer (some ⟨B.c.Q, 0, none⟩)] W fun e w' => e = .returned (.tuple #[]) ∧ (∃ b vt ct, Sx B b (sdlM B.c.z s).1 (sdlM B.c.z s).2 vt ct w') ∧ Below B.n W w' := by
  have HM := Lib.hid (show sdlM B.c.z s = (dfR (sgoM B.c.z (s.l.length + 1) true schZ s).1, (sgoM B.c.z (s.l.length + 1) true schZ s).2) from rfl)
  generalize sdlM B.c.z s = RES at *
  have HRES := Lib.hid (show sgoM B.c.z (s.l.length + 1) true schZ s = sgoM B.c.z (s.l.length + 1) true schZ s from rfl)
  generalize hRG : sgoM B.c.z (s.l.length + 1) true schZ s = RG at *
  have HRG := Lib.hid hRG
  have HH := Lib.hid h
  clear h hRG HRES
  go_enter Tryz.func41, Tryz.ntmps41
  go_wp2_with fail
  go_loopg [] (s.l.length + 1) (fun j wr => SgRel B W RG j wr)
  case atStart => exact ⟨true, schZ, s, vt, ct, HH.out, Below.refl _ _, Nat.lt_succ_self _, HRG.out⟩
  case round =>
    obtain ⟨b, x, s2, vt2, ct2, S2, hb2, hj, hres⟩ := hrel
    obtain ⟨j2, rfl⟩ : ∃ j', gk = j' + 1 := ⟨gk - 1, by omega⟩
    obtain ⟨m, p, hbk, hp, hm, hl⟩ := S2.p.bk
    have HLF := Pv.left hbk hp (by have h1 : m ≤ B.c.ts.length := hm; have h2 : B.c.ts.length ≤ 8000 := S2.p.hs; omega)
    dsimp only [SdB.cs] at HLF
    obtain ⟨q0, q1, q2, q3, q4, qf, ql⟩ := blk5s S2.blk
    have hlen : s2.l.length = m - p := by rw [← hl]; exact take_drop_len hm
    have HB2 := Lib.hid hb2
    have HS2 := Lib.hid S2
    have HBAD := Lib.hid S2.p.bad
    clear HH HRG hbk hl hb2 S2
    by_cases he : p < m
    · have hd : decide (0 < ((m - p : Nat) : Int)) = true := decide_eq_true (by omega)
      have hd2 : decide (0 < m - p) = true := decide_eq_true (by omega)
      have hd3 : decide (p < m) = true := decide_eq_true he
      have HS := Lib.hid (show RG = sgoM B.c.z j2 (sdfM B.c.z b x s2).1.2 (sdfM B.c.z b x s2).1.1 (sdfM B.c.z b x s2).2 by
        rw [← hres, sgoM, if_neg (by rw [List.isEmpty_iff]; intro e; rw [e] at hlen; simp at hlen; omega)])
      have HLS := Lib.hid (sdfM_less B.c.z b x s2 HBAD.out (by omega))
      have HC := fun w2 (hsm : SameW wr w2) => sDef_any w2 (HS2.out.below (hsm.below _)).1
      generalize sdfM B.c.z b x s2 = R2 at *
      obtain ⟨⟨x3, b3⟩, s3⟩ := R2
      dsimp only at HS HC HLS
      have HJ := Lib.hid hj
      have HBB := Lib.hid (fun w2 (hsm : SameW wr w2) => HB2.out.trans (hsm.below B.n))
      clear hres hj hlen HS2
      go_wp2_with fail
      refine HLF.mono ?_
      rintro e w2 ⟨rfl, hsm⟩
      have HC2 := HC w2 hsm
      have HB3 := Lib.hid (HBB.out w2 hsm)
      clear HC HLF hsm HBB
      go_wp2_with fail
      refine HC2.mono ?_
      rintro e w3 ⟨rfl, ⟨vt3, ct3, S3⟩, hb3⟩
      have HX := Lib.hid S3
      have HB4 := Lib.hid (HB3.out.trans hb3)
      clear S3 hb3 HC2 HB3
      go_wp2_with fail
      go_roundg j2
      case measure => omega
      case rel => exact ⟨b3, x3, s3, vt3, ct3, HX.out, HB4.out, by have := HLS.out; have := HJ.out; omega, HS.out.symm⟩
    · have hd : decide (0 < ((m - p : Nat) : Int)) = false := decide_eq_false (by omega)
      have hd2 : decide (0 < m - p) = false := decide_eq_false (by omega)
      have hd3 : decide (p < m) = false := decide_eq_false he
      have HS := Lib.hid (show RG = (x, s2) by
        rw [← hres, sgoM, if_pos (by rw [List.isEmpty_iff]; exact List.eq_nil_of_length_eq_zero (by omega))])
      have HT := Lib.hid (fun w2 (hsm : SameW wr w2) => And.intro (HS2.out.below (hsm.below _)).1 (HB2.out.trans (hsm.below B.n)))
      clear hres hj hlen HS2
      cases hq : x.qu.isEmpty with
      | true =>
        have HR := Lib.hid (show RES = (⟨queryN, if x.types.any isMu then mutN else x.mu, x.types⟩, s2) by
          rw [HM.out, HS.out]
          show (dfR x, s2) = _
          unfold dfR
          rw [if_pos hq]
          rfl)
        go_wp2_with fail
        refine HLF.mono ?_
        rintro e w2 ⟨rfl, hsm⟩
        have T2 := HT.out w2 hsm
        obtain ⟨a0, a1, a2, a3, a4, af, al⟩ := blk5s T2.1.blk
        have HC := sDefault_any w2 T2.1
        have HB3 := Lib.hid T2.2
        clear HLF hsm T2 HT
        go_wp2_with fail
        refine HC.mono ?_
        rintro e w3 ⟨rfl, ⟨vt3, ct3, S3⟩, hb3⟩
        have HX := Lib.hid S3
        have HB4 := Lib.hid (HB3.out.trans hb3)
        clear S3 hb3 HC HB3
        go_wp2_with fail
        go_end0
        rw [HR.out]
        exact ⟨rfl, ⟨_, _, _, HX.out⟩, HB4.out⟩
      | false =>
        have HR := Lib.hid (show RES = (x, s2) by
          rw [HM.out, HS.out]
          show (dfR x, s2) = _
          unfold dfR
          rw [if_neg (by rw [hq]; decide)])
        go_wp2_with fail
        refine HLF.mono ?_
        rintro e w2 ⟨rfl, hsm⟩
        have T2 := HT.out w2 hsm
        obtain ⟨a0, a1, a2, a3, a4, af, al⟩ := blk5s T2.1.blk
        have HX := Lib.hid T2
        clear HLF hsm T2 HT
        go_wp2_with fail
        go_end0
        rw [HR.out]
        exact ⟨rfl, ⟨_, _, _, HX.out.1⟩, HX.out.2⟩

end Go.Proofs.YtkahnlgedacppaaGreatDoor
/-
  sdl's parser is made: its map.
-/
namespace Go.Proofs.YtkahnlgedacppaaGreatDoor
open Go.RowKit Go.Maps Go.WideMaps

/-- An entry of a map that is written out: what a store says of it. -/
theorem wpList_insert_own {H : Type} {P : Program} (w : World) {ops : Array Oper} {rest : List Oper} {o : Oper} {a : Act} {Q : Exit → Act → World → Prop}
    (hg : o.guard = none) (m x v : Operand) (t : TypeId) (hop : o.op = Op.insert t m x v)
    (k e : TypeId) (K : Keyed P k) (ht : P.underlying t = some (.map k e)) (R : Value → Option (DataW H × List MemPlace)) (b n : Nat) (D : DataW H)
    (hm : a.eval m = .map (some b)) (hown : w.ownsMap P k R b n D) (hn : n < maxLen) (key val : Value) (kl : Lit) (hx : a.eval x = key) (hv : a.eval v = val) (hkey : keyOf P k key = some kl)
    (d : DataW H) (ps : List MemPlace) (hval : R val = some (d, ps))
    (hK : ∀ w', w'.ownsMap P k R b (n + 1) (D.put kl d) → w.grownBy w' (some b) → wpList P ops Q rest (a.put o.dst undef) w') :
    wpList P ops Q (o :: rest) a w := by
  refine wpList_plain hg fun K' hK' => ?_
  obtain ⟨w', hrun, r1, r2⟩ := hown.update K ht hn hkey hval
  unfold Oper.wp
  simp [execOp, hop, hm, hx, hv, hrun, Result.andThen]
  exact hK' _ _ (hK w' r1 r2)
theorem kS (s : ByteArray) (l : List UInt8) (h : s.data.toList = l) (hl : l.length ≤ 100) : keyOf Tryz.prog 9 (.string s) = some (.string l) := by
  subst h
  exact keyOf_string_mk Tryz.underlying9 (by show s.data.size ≤ _; unfold maxLen; rw [← Array.length_toList]; omega)
theorem grow_blk {W W1 : World} {M : Nat} (h : W.grownBy W1 (some M)) : ∀ b, b < W.heap.size → b ≠ M → W1.heap[b]? = W.heap[b]? := fun b hb hne => h.block b hb (by first | exact fun e => hne (Option.some.inj e) | exact fun e => hne (Option.some.inj e).symm)

set_option maxHeartbeats 8000000 in
set_option maxRecDepth 100000 in
theorem newParser_any (R : Nat) (W : World) : Calls Tryz.prog 40 #[.pointer (some ⟨R, 0, none⟩)] W fun e w' => e = .returned (.pointer (some ⟨W.heap.size, 0, none⟩)) ∧ Below W.heap.size W w' ∧ w'.heap[W.heap.size]? = some (sdO R schZ (.slice none 0 0) (W.heap.size + 1)) ∧ w'.ownsMap Tryz.prog 9 (fnR W.heap.size) (W.heap.size + 1) 7 (mapD true) ∧ W.heap.size + 2 ≤ w'.heap.size := by
  have hmm := @run_makeMap Tryz.prog
  have hs1 : (W.alloc (.cells #[.pointer (some ⟨R, 0, none⟩), .string ⟨#[]⟩, .string ⟨#[]⟩, .slice none 0 0, .map none] 100 (0, 0))).heap.size = W.heap.size + 1 := by simp
  have h0 := World.ownsMap_made (W.alloc (.cells #[.pointer (some ⟨R, 0, none⟩), .string ⟨#[]⟩, .string ⟨#[]⟩, .slice none 0 0, .map none] 100 (0, 0))) Tryz.prog 9 (fnR W.heap.size)
  rw [hs1] at h0
  have hb2 : Below W.heap.size W ((W.alloc (.cells #[.pointer (some ⟨R, 0, none⟩), .string ⟨#[]⟩, .string ⟨#[]⟩, .slice none 0 0, .map none] 100 (0, 0))).alloc (.map #[] 0)) := ((Below.refl _ W).alloc (Nat.le_refl _) _).alloc (by rw [hs1]; omega) _
  have hs2 : ((W.alloc (.cells #[.pointer (some ⟨R, 0, none⟩), .string ⟨#[]⟩, .string ⟨#[]⟩, .slice none 0 0, .map none] 100 (0, 0))).alloc (.map #[] 0)).heap.size = W.heap.size + 2 := by simp
  have hq2 : ((W.alloc (.cells #[.pointer (some ⟨R, 0, none⟩), .string ⟨#[]⟩, .string ⟨#[]⟩, .slice none 0 0, .map none] 100 (0, 0))).alloc (.map #[] 0)).heap[W.heap.size]? = some (.cells #[.pointer (some ⟨R, 0, none⟩), .string ⟨#[]⟩, .string ⟨#[]⟩, .slice none 0 0, .map none] 100 (0, 0)) := by
    rw [Below.heap_alloc _ _ _ (by rw [hs1]; omega)]; exact heap_alloc_new _ _
  have HFIN := Lib.hid (fun (w7 : World) (h7 : w7.ownsMap Tryz.prog 9 (fnR W.heap.size) (W.heap.size + 1) 7 mapD7) (g7 : ((W.alloc (.cells #[.pointer (some ⟨R, 0, none⟩), .string ⟨#[]⟩, .string ⟨#[]⟩, .slice none 0 0, .map none] 100 (0, 0))).alloc (.map #[] 0)).grownBy w7 (some (W.heap.size + 1))) =>
    (show (w7.cell? ⟨W.heap.size, 4, none⟩ = some (.map none) ∧ w7.frozen? ⟨W.heap.size, 4, none⟩ = false ∧ W.heap.size < w7.heap.size) ∧ Below W.heap.size W (w7.setCell ⟨W.heap.size, 4, none⟩ (.map (some (W.heap.size + 1)))) ∧ (w7.setCell ⟨W.heap.size, 4, none⟩ (.map (some (W.heap.size + 1)))).heap[W.heap.size]? = some (sdO R schZ (.slice none 0 0) (W.heap.size + 1)) ∧ (w7.setCell ⟨W.heap.size, 4, none⟩ (.map (some (W.heap.size + 1)))).ownsMap Tryz.prog 9 (fnR W.heap.size) (W.heap.size + 1) 7 (mapD true) ∧ W.heap.size + 2 ≤ (w7.setCell ⟨W.heap.size, 4, none⟩ (.map (some (W.heap.size + 1)))).heap.size from by
      have hq7 := (grow_blk g7 W.heap.size (by rw [hs2]; omega) (by omega)).trans hq2
      have hz := g7.size
      rw [hs2] at hz
      refine ⟨⟨Lib.cell_of_heap hq7 4, by simp [World.frozen?, hq7], by omega⟩, ⟨g7.os.trans hb2.os, g7.tape.trans hb2.tape, g7.output.trans hb2.output, by simp [World.setCell]; omega, fun b hb => ?_⟩, ?_, h7.setCell (by show W.heap.size + 1 ≠ W.heap.size; omega) _, by simp [World.setCell]; omega⟩
      · rw [Below.heap_setCell _ _ _ _ (show b ≠ W.heap.size by omega), grow_blk g7 b (by rw [hs2]; omega) (by omega)]
        exact hb2.block b hb
      · rw [Lib.heap_setCell_same hq7]; rfl))
  have HG := Lib.hid (World.grownBy_alloc ((W.alloc (.cells #[.pointer (some ⟨R, 0, none⟩), .string ⟨#[]⟩, .string ⟨#[]⟩, .slice none 0 0, .map none] 100 (0, 0)))) (.map #[] 0) none)
  clear hb2 hs2 hq2 HG
  go_enter Tryz.func40, Tryz.ntmps40
  go_wp2_with (first
    | (refine wpList_insert_own _ rfl _ _ _ 98 rfl 9 1 lawK Tryz.underlying98 (fnR W.heap.size) (W.heap.size + 1) 0 _ (by simp [Act.eval]) h0 (by decide) _ _ _ rfl rfl (kS ⟨#[115, 99, 104, 101, 109, 97]⟩ schemaS rfl (by decide)) (fnL 84) [] (fnR_mk _ _) ?_; intro w1 h1 g1)
    | (refine wpList_insert_own _ rfl _ _ _ 98 rfl 9 1 lawK Tryz.underlying98 (fnR W.heap.size) (W.heap.size + 1) _ _ (by simp [Act.eval]) h1 (by decide) _ _ _ rfl rfl (kS ⟨#[115, 99, 97, 108, 97, 114]⟩ scalarS rfl (by decide)) (fnL 85) [] (fnR_mk _ _) ?_; intro w2 h2 g2)
    | (refine wpList_insert_own _ rfl _ _ _ 98 rfl 9 1 lawK Tryz.underlying98 (fnR W.heap.size) (W.heap.size + 1) _ _ (by simp [Act.eval]) h2 (by decide) _ _ _ rfl rfl (kS ⟨#[116, 121, 112, 101]⟩ typeS rfl (by decide)) (fnL 86) [] (fnR_mk _ _) ?_; intro w3 h3 g3)
    | (refine wpList_insert_own _ rfl _ _ _ 98 rfl 9 1 lawK Tryz.underlying98 (fnR W.heap.size) (W.heap.size + 1) _ _ (by simp [Act.eval]) h3 (by decide) _ _ _ rfl rfl (kS ⟨#[105, 110, 116, 101, 114, 102, 97, 99, 101]⟩ faceS rfl (by decide)) (fnL 87) [] (fnR_mk _ _) ?_; intro w4 h4 g4)
    | (refine wpList_insert_own _ rfl _ _ _ 98 rfl 9 1 lawK Tryz.underlying98 (fnR W.heap.size) (W.heap.size + 1) _ _ (by simp [Act.eval]) h4 (by decide) _ _ _ rfl rfl (kS ⟨#[117, 110, 105, 111, 110]⟩ unionS rfl (by decide)) (fnL 88) [] (fnR_mk _ _) ?_; intro w5 h5 g5)
    | (refine wpList_insert_own _ rfl _ _ _ 98 rfl 9 1 lawK Tryz.underlying98 (fnR W.heap.size) (W.heap.size + 1) _ _ (by simp [Act.eval]) h5 (by decide) _ _ _ rfl rfl (kS ⟨#[101, 110, 117, 109]⟩ enumS rfl (by decide)) (fnL 89) [] (fnR_mk _ _) ?_; intro w6 h6 g6)
    | (refine wpList_insert_own _ rfl _ _ _ 98 rfl 9 1 lawK Tryz.underlying98 (fnR W.heap.size) (W.heap.size + 1) _ _ (by simp [Act.eval]) h6 (by decide) _ _ _ rfl rfl (kS ⟨#[105, 110, 112, 117, 116]⟩ inputS rfl (by decide)) (fnL 90) [] (fnR_mk _ _) ?_; intro w7 h7 g7; obtain ⟨⟨c4, f4, l4⟩, hfin⟩ := HFIN.out w7 h7 ((((((g1.trans g2).trans g3).trans g4).trans g5).trans g6).trans g7)))
  go_ret
  exact ⟨rfl, hfin⟩

end Go.Proofs.YtkahnlgedacppaaGreatDoor
