/-
  What the document's text and Text answer: the same as the program's.
-/
import Derived.Test.YthmoadkkadlefaaDoorRc
import Derived.Test.YthmoadkkadlefaaDoorText2
namespace Go.Proofs.YthmoadkkadlefaaDoor
open Go.RowKit

def TxtRel (f : JV → List UInt8) (ob : Bool) (ns : List ByteArray) (ps : List JV) (T : List UInt8) (W1 : World) (t i : Value) (wr : World) : Prop :=
  ∃ (k : Nat) (S : ByteArray), k ≤ ps.length ∧ i = .int .i64 k ∧ t = .string S ∧ Below W1.heap.size W1 wr ∧ T = bl S ++ pts f ob (k == 0) (ns.drop k) (ps.drop k)
theorem of_bytes (S : ByteArray) (l : List UInt8) (h : bl S = l) : Ending.returned (.string S) = .returned (.string ⟨l.toArray⟩) := by
  rw [of_bl S l h]
theorem bl_of (l : List UInt8) : bl ⟨l.toArray⟩ = l := rfl
theorem size_of (l : List UInt8) : (⟨l.toArray⟩ : ByteArray).size = l.length := rfl


set_option maxHeartbeats 4000000 in
set_option maxRecDepth 100000 in
theorem reftext_7 (m : Nat) (ih : ∀ (B n : Nat) (x : JV) (v : Value) (w : World), B ≤ w.heap.size → Rd w B n x v → chkAt m x = true → (txt m x).length ≤ 100000000000 → Calls Tryd.prog 33 #[v] w (StrBelow w (txt m x)))
    (B n : Nat) (s : ByteArray) (ns : List ByteArray) (ps : List JV) (v : Value) (w : World) (hB : B ≤ w.heap.size) (h : Rd w B (n + 1) (.mk 7 s ns ps) v) (hall : ps.all (chkAt m) = true) (hlen : (txt (m + 1) (.mk 7 s ns ps)).length ≤ 100000000000) :
    Calls Tryd.prog 33 #[v] w (StrBelow w (txt (m + 1) (.mk 7 s ns ps))) := by
  obtain ⟨an, cn, ap, cp, rfl, ⟨z1, z2, z3, z4, z5⟩, hs, hr⟩ := h
  simp only [JV.k, JV.s, JV.ns, JV.ps] at *
  have HI := Lib.hid ih
  clear ih
  have HALL := Lib.hid hall
  
  have hbA : ∀ o, Below w.heap.size w (w.alloc o) := fun o => (Below.refl _ w).alloc (Nat.le_refl _) o
  obtain ⟨T, hT⟩ : ∃ T, pts (txt m) false true ns ps = T := ⟨_, rfl⟩
  have HX := Lib.hid (show txt (m + 1) (.mk 7 s ns ps) = [91] ++ (T ++ [93]) from by rw [txt_list (x := .mk 7 s ns ps) rfl, ← hT]; rfl)
  have hTl : T.length + 2 ≤ 100000000000 := by
    have := hlen
    rw [HX.out] at this
    simp at this
    omega
  have HT := Lib.hid hT
  clear hT hlen hall 
  go_enter Tryd.func33, Tryd.ntmps33
  go_wp2_with fail
  obtain ⟨W1, hW1⟩ : ∃ W1, W1 = w.alloc (.cells #[.int .i64 7, .string s, .slice an ns.length cn, .slice ap ps.length cp] 25) := ⟨_, rfl⟩
  rw [← hW1]
  have B1 : Below w.heap.size w W1 := by rw [hW1]; exact hbA _
  have s1 : W1.heap.size = w.heap.size + 1 := by rw [hW1]; simp
  have c1 : W1.cell? ⟨w.heap.size, 3, none⟩ = some (.slice ap ps.length cp) := by rw [hW1]; go_simp
  have c0 : W1.cell? ⟨w.heap.size, 2, none⟩ = some (.slice an ns.length cn) := by rw [hW1]; go_simp
  have c4 : W1.cell? ⟨w.heap.size, 0, none⟩ = some (.int .i64 7) := by rw [hW1]; go_simp
  clear hW1 hbA
  go_loopw [3, 4] (fun t i wr => TxtRel (txt m) false ns ps T W1 t i wr) (fun _ i _ => ps.length - (intOf i).toNat)
  case atStart => exact ⟨0, ⟨#[]⟩, Nat.zero_le _, rfl, rfl, Below.refl _ _, HT.out.symm⟩
  case round =>
    obtain ⟨q, S, hq, rfl, rfl, hbw, hTS⟩ := hrel
    have HTS := Lib.hid hTS
    clear hTS
    have cell : ∀ o, wr.cell? ⟨w.heap.size, o, none⟩ = W1.cell? ⟨w.heap.size, o, none⟩ := fun o => hbw.cell (p := ⟨w.heap.size, o, none⟩) (by show w.heap.size < _; omega)
    have c5 := (cell 3).trans c1
    have c6 := (cell 2).trans c0
    have c7 := (cell 0).trans c4
    clear cell
    have hws := hbw.size
    have BW := B1.trans (hbw.mono B1.size)
    by_cases hlt : q < ps.length
    · obtain ⟨b, off, y, an', cn', ap', cp', HY, rfl, hb, hRr, g0, g1, g2, g3⟩ := hr.elem hlt (BW.mono hB)
      have HST := Lib.hid (pts_step (txt m) false ns ps q hlt)
      rw [HY.out] at HST
      have hcy : chkAt m y = true := by rw [← HY.out]; exact List.all_eq_true.1 HALL.out _ (List.getElem_mem hlt)
      have HE := Lib.hid (show T = bl S ++ ((if q == 0 then [] else [44]) ++ ( (txt m y ++ pts (txt m) false false (ns.drop (q + 1)) (ps.drop (q + 1))))) from by rw [HTS.out, HST.out]; rfl)
      have hsz : S.size + (if q == 0 then 0 else 1) +  (txt m y).length ≤ 100000000000 := by
        have h1 := hTl
        rw [HE.out] at h1
        have h2 : S.size = (bl S).length := rfl
        have h3 : ((if (q == 0) = true then [] else [44]) : List UInt8).length = if q == 0 then 0 else 1 := by split <;> rfl
        simp only [List.length_append, h3] at h1
        omega
      have hih := fun W (hb : Below wr.heap.size wr W) => HI.out B n y _ W (Nat.le_trans (by omega) hb.size) (hRr.below (hb.mono (by omega))) hcy (by omega)
      clear hr HY c0 c1 c4 HST hcy hs
      generalize txt m y = ty at *
      by_cases hq0 : q = 0
      · subst hq0
        have hsz0 : S.size +  ty.length ≤ 100000000000 := by simpa using hsz
        have HE0 := Lib.hid (show T = bl S ++ ( (ty ++ pts (txt m) false false (ns.drop 1) (ps.drop 1))) from by rw [HE.out]; rfl)
        clear HE hsz
        simp only [Nat.zero_mul, Nat.add_zero] at g0 g1 g2 g3
        have zT : (⟨ty.toArray⟩ : ByteArray).size = ty.length := rfl
        have hB3 : S.size + (⟨ty.toArray⟩ : ByteArray).size ≤ 100000000000 := by omega
        clear zT
        
        go_wp2_with ((go_at_call 33); (with_reducible refine (hih _ (Below.refl _ _)).mono ?_); rintro e w3 ⟨rfl, b3⟩)
        go_roundw
        case rel => exact ⟨1, _, by omega, by go_num, rfl, hbw.trans (b3.mono hws), by rw [HE0.out]; simp [bl_app, bl_of]⟩
        case measure => simp [intOf]; omega
      · have f0 : decide ((0 : Int) < (q : Int)) = true := decide_eq_true (by omega)
        have fq : (q == 0) = false := by simpa using hq0
        have hsz0 : S.size + 1 +  ty.length ≤ 100000000000 := by rw [fq] at hsz; simpa using hsz
        have HE0 := Lib.hid (show T = bl S ++ ([44] ++ ( (ty ++ pts (txt m) false false (ns.drop (q + 1)) (ps.drop (q + 1))))) from by rw [HE.out, fq]; rfl)
        clear HE hsz fq
        have zc : (⟨#[44]⟩ : ByteArray).size = 1 := rfl
        have zS : (S ++ ⟨#[44]⟩).size = S.size + 1 := by rw [ByteArray.size_append, zc]
        have HZS := Lib.hid zS
        obtain ⟨S1, hS1⟩ : ∃ S1, S1 = S ++ ⟨#[44]⟩ := ⟨_, rfl⟩
        have hz1 : S1.size ≤ S.size + 1 := by rw [hS1, zS]; exact Nat.le_refl _
        have HS1 := Lib.hid hS1
        clear hS1 zS zc
        have zT : (⟨ty.toArray⟩ : ByteArray).size = ty.length := rfl
        have hB3 : S1.size + (⟨ty.toArray⟩ : ByteArray).size ≤ 100000000000 := by omega
        clear zT
        rw [HS1.out] at *
        go_wp2_with ((go_at_call 33); (with_reducible refine (hih _ (Below.refl _ _)).mono ?_); rintro e w3 ⟨rfl, b3⟩)
        go_roundw
        case rel => exact ⟨q + 1, _, by omega, by go_num, rfl, hbw.trans (b3.mono hws), by rw [HE0.out]; simp [bl_app, bl_of]⟩
        case measure => simp [intOf]; omega
    · have HF := Lib.hid (show T = bl S from by rw [HTS.out, List.drop_of_length_le (show ps.length ≤ q by omega)]; simp [pts])
      have hSz : S.size + 2 ≤ 100000000000 := by have h1 := hTl; rw [HF.out] at h1; exact h1
      have za : ((⟨#[91]⟩ : ByteArray) ++ S).size ≤ 100000000000 := by rw [ByteArray.size_append]; have : (⟨#[91]⟩ : ByteArray).size = 1 := rfl; omega
      go_wp2_with fail
      go_ret
      refine ⟨?_, BW⟩
      rw [HX.out, HF.out]
      exact of_bytes _ _ (by simp only [bl_app]; rfl)


set_option maxHeartbeats 4000000 in
set_option maxRecDepth 100000 in
theorem reftext_8 (m : Nat) (ih : ∀ (B n : Nat) (x : JV) (v : Value) (w : World), B ≤ w.heap.size → Rd w B n x v → chkAt m x = true → (txt m x).length ≤ 100000000000 → Calls Tryd.prog 33 #[v] w (StrBelow w (txt m x)))
    (B n : Nat) (s : ByteArray) (ns : List ByteArray) (ps : List JV) (v : Value) (w : World) (hB : B ≤ w.heap.size) (h : Rd w B (n + 1) (.mk 8 s ns ps) v) (hall : ps.all (chkAt m) = true) (hnl : ns.length = ps.length) (hlen : (txt (m + 1) (.mk 8 s ns ps)).length ≤ 100000000000) :
    Calls Tryd.prog 33 #[v] w (StrBelow w (txt (m + 1) (.mk 8 s ns ps))) := by
  obtain ⟨an, cn, ap, cp, rfl, ⟨z1, z2, z3, z4, z5⟩, hs, hr⟩ := h
  simp only [JV.k, JV.s, JV.ns, JV.ps] at *
  have HI := Lib.hid ih
  clear ih
  have HALL := Lib.hid hall
  have HNL := Lib.hid hnl
  have hbA : ∀ o, Below w.heap.size w (w.alloc o) := fun o => (Below.refl _ w).alloc (Nat.le_refl _) o
  obtain ⟨T, hT⟩ : ∃ T, pts (txt m) true true ns ps = T := ⟨_, rfl⟩
  have HX := Lib.hid (show txt (m + 1) (.mk 8 s ns ps) = [123] ++ (T ++ [125]) from by rw [txt_obj (x := .mk 8 s ns ps) rfl, ← hT]; rfl)
  have hTl : T.length + 2 ≤ 100000000000 := by
    have := hlen
    rw [HX.out] at this
    simp at this
    omega
  have HT := Lib.hid hT
  clear hT hlen hall hnl
  go_enter Tryd.func33, Tryd.ntmps33
  go_wp2_with fail
  obtain ⟨W1, hW1⟩ : ∃ W1, W1 = w.alloc (.cells #[.int .i64 8, .string s, .slice an ns.length cn, .slice ap ps.length cp] 25) := ⟨_, rfl⟩
  rw [← hW1]
  have B1 : Below w.heap.size w W1 := by rw [hW1]; exact hbA _
  have s1 : W1.heap.size = w.heap.size + 1 := by rw [hW1]; simp
  have c1 : W1.cell? ⟨w.heap.size, 3, none⟩ = some (.slice ap ps.length cp) := by rw [hW1]; go_simp
  have c0 : W1.cell? ⟨w.heap.size, 2, none⟩ = some (.slice an ns.length cn) := by rw [hW1]; go_simp
  have c4 : W1.cell? ⟨w.heap.size, 0, none⟩ = some (.int .i64 8) := by rw [hW1]; go_simp
  clear hW1 hbA
  go_loopw [3, 4] (fun t i wr => TxtRel (txt m) true ns ps T W1 t i wr) (fun _ i _ => ps.length - (intOf i).toNat)
  case atStart => exact ⟨0, ⟨#[]⟩, Nat.zero_le _, rfl, rfl, Below.refl _ _, HT.out.symm⟩
  case round =>
    obtain ⟨q, S, hq, rfl, rfl, hbw, hTS⟩ := hrel
    have HTS := Lib.hid hTS
    clear hTS
    have cell : ∀ o, wr.cell? ⟨w.heap.size, o, none⟩ = W1.cell? ⟨w.heap.size, o, none⟩ := fun o => hbw.cell (p := ⟨w.heap.size, o, none⟩) (by show w.heap.size < _; omega)
    have c5 := (cell 3).trans c1
    have c6 := (cell 2).trans c0
    have c7 := (cell 0).trans c4
    clear cell
    have hws := hbw.size
    have BW := B1.trans (hbw.mono B1.size)
    by_cases hlt : q < ps.length
    · obtain ⟨b, off, y, an', cn', ap', cp', HY, rfl, hb, hRr, g0, g1, g2, g3⟩ := hr.elem hlt (BW.mono hB)
      have HST := Lib.hid (pts_step (txt m) true ns ps q hlt)
      rw [HY.out] at HST
      have hcy : chkAt m y = true := by rw [← HY.out]; exact List.all_eq_true.1 HALL.out _ (List.getElem_mem hlt)
      obtain ⟨bn, offn, rfl, hbn, hnz, hcn⟩ := (hs.below (BW.mono hB)).at_ (show q < ns.length by have := HNL.out; omega)
      have HNM := Lib.hid (show (ns.drop q).headD ⟨#[]⟩ = ns[q]'(by have := HNL.out; omega) from head_drop ns q _)
      generalize ns[q]'(by have := HNL.out; omega) = nm at *
      have hqt := fun W => refQuote_any nm W (by omega)
      have HQB : Hid (quoteB nm.data.toList = quoteB (vbl nm)) := Lib.hid rfl
      rw [HQB.out] at hqt
      have hlq : q < ns.length := by have := HNL.out; omega
      obtain ⟨QQ, hQQ⟩ : ∃ QQ, quoteB (vbl nm) = QQ := ⟨_, rfl⟩
      rw [hQQ] at hqt
      have HQQ := Lib.hid hQQ
      clear hQQ HQB
      have HE := Lib.hid (show T = bl S ++ ((if q == 0 then [] else [44]) ++ ((QQ ++ [58]) ++ (txt m y ++ pts (txt m) true false (ns.drop (q + 1)) (ps.drop (q + 1))))) from by rw [HTS.out, HST.out, HNM.out, HQQ.out]; rfl)
      have hsz : S.size + (if q == 0 then 0 else 1) + (QQ.length + 1) + (txt m y).length ≤ 100000000000 := by
        have h1 := hTl
        rw [HE.out] at h1
        have h2 : S.size = (bl S).length := rfl
        have h3 : ((if (q == 0) = true then [] else [44]) : List UInt8).length = if q == 0 then 0 else 1 := by split <;> rfl
        simp only [List.length_append, h3] at h1
        omega
      have hih := fun W (hb : Below wr.heap.size wr W) => HI.out B n y _ W (Nat.le_trans (by omega) hb.size) (hRr.below (hb.mono (by omega))) hcy (by omega)
      clear hr HY c0 c1 c4 HST hcy hs
      generalize txt m y = ty at *
      by_cases hq0 : q = 0
      · subst hq0
        have hsz0 : S.size + (QQ.length + 1) + ty.length ≤ 100000000000 := by simpa using hsz
        have HE0 := Lib.hid (show T = bl S ++ ((QQ ++ [58]) ++ (ty ++ pts (txt m) true false (ns.drop 1) (ps.drop 1))) from by rw [HE.out]; rfl)
        clear HE hsz
        simp only [Nat.zero_mul, Nat.add_zero] at g0 g1 g2 g3 hcn
        have zq : (⟨QQ.toArray⟩ : ByteArray).size = QQ.length := rfl
        have zA : (S ++ ⟨QQ.toArray⟩).size = S.size + QQ.length := by rw [ByteArray.size_append, zq]
        have zB : (S ++ ⟨QQ.toArray⟩ ++ ⟨#[58]⟩).size = S.size + QQ.length + 1 := by rw [ByteArray.size_append, zA]; rfl
        have zT : (⟨ty.toArray⟩ : ByteArray).size = ty.length := rfl
        have hA : (S ++ ⟨QQ.toArray⟩).size ≤ 100000000000 := by omega
        have hA1 : (⟨QQ.toArray⟩ : ByteArray).size ≤ 100000000000 := by omega
        have hA2 : S.size + (⟨QQ.toArray⟩ : ByteArray).size ≤ 100000000000 := by omega
        have hB3 : (S ++ ⟨QQ.toArray⟩ ++ ⟨#[58]⟩).size + (⟨ty.toArray⟩ : ByteArray).size ≤ 100000000000 := by omega
        have hB4 : (S ++ ⟨QQ.toArray⟩ ++ ⟨#[58]⟩).size ≤ 100000000000 := by omega
        clear zq zA zB zT
        
        go_wp2_with (first | ((go_at_call 48); (with_reducible refine (hqt _).mono ?_); rintro e w2 ⟨rfl, b2⟩; have c8 := (b2.cell (p := ⟨w.heap.size, 3, none⟩) (by show w.heap.size < _; omega)).trans c5; have k0 := (b2.cell (p := ⟨b, off, none⟩) (by show b < _; omega)).trans g0; have k1 := (b2.cell (p := ⟨b, off + 1, none⟩) (by show b < _; omega)).trans g1; have k2 := (b2.cell (p := ⟨b, off + 2, none⟩) (by show b < _; omega)).trans g2; have k3 := (b2.cell (p := ⟨b, off + 3, none⟩) (by show b < _; omega)).trans g3; clear c5 g0 g1 g2 g3) | ((go_at_call 33); (with_reducible refine (hih _ b2).mono ?_); rintro e w3 ⟨rfl, b3⟩))
        go_roundw
        case rel => exact ⟨1, _, by omega, by go_num, rfl, (hbw.trans (b2.mono hws)).trans (b3.mono (Nat.le_trans hws b2.size)), by rw [HE0.out]; simp [bl_app, bl_of]⟩
        case measure => simp [intOf]; omega
      · have f0 : decide ((0 : Int) < (q : Int)) = true := decide_eq_true (by omega)
        have fq : (q == 0) = false := by simpa using hq0
        have hsz0 : S.size + 1 + (QQ.length + 1) + ty.length ≤ 100000000000 := by rw [fq] at hsz; simpa using hsz
        have HE0 := Lib.hid (show T = bl S ++ ([44] ++ ((QQ ++ [58]) ++ (ty ++ pts (txt m) true false (ns.drop (q + 1)) (ps.drop (q + 1))))) from by rw [HE.out, fq]; rfl)
        clear HE hsz fq
        have zc : (⟨#[44]⟩ : ByteArray).size = 1 := rfl
        have zS : (S ++ ⟨#[44]⟩).size = S.size + 1 := by rw [ByteArray.size_append, zc]
        have HZS := Lib.hid zS
        obtain ⟨S1, hS1⟩ : ∃ S1, S1 = S ++ ⟨#[44]⟩ := ⟨_, rfl⟩
        have hz1 : S1.size ≤ S.size + 1 := by rw [hS1, zS]; exact Nat.le_refl _
        have HS1 := Lib.hid hS1
        clear hS1 zS zc
        have zq : (⟨QQ.toArray⟩ : ByteArray).size = QQ.length := rfl
        have zA : (S1 ++ ⟨QQ.toArray⟩).size = S1.size + QQ.length := by rw [ByteArray.size_append, zq]
        have zB : (S1 ++ ⟨QQ.toArray⟩ ++ ⟨#[58]⟩).size = S1.size + QQ.length + 1 := by rw [ByteArray.size_append, zA]; rfl
        have zT : (⟨ty.toArray⟩ : ByteArray).size = ty.length := rfl
        have hA : (S1 ++ ⟨QQ.toArray⟩).size ≤ 100000000000 := by omega
        have hA1 : (⟨QQ.toArray⟩ : ByteArray).size ≤ 100000000000 := by omega
        have hA2 : S1.size + (⟨QQ.toArray⟩ : ByteArray).size ≤ 100000000000 := by omega
        have hB3 : (S1 ++ ⟨QQ.toArray⟩ ++ ⟨#[58]⟩).size + (⟨ty.toArray⟩ : ByteArray).size ≤ 100000000000 := by omega
        have hB4 : (S1 ++ ⟨QQ.toArray⟩ ++ ⟨#[58]⟩).size ≤ 100000000000 := by omega
        clear zq zA zB zT
        rw [HS1.out] at *
        go_wp2_with (first | ((go_at_call 48); (with_reducible refine (hqt _).mono ?_); rintro e w2 ⟨rfl, b2⟩; have c8 := (b2.cell (p := ⟨w.heap.size, 3, none⟩) (by show w.heap.size < _; omega)).trans c5; have k0 := (b2.cell (p := ⟨b, off + q * 4, none⟩) (by show b < _; omega)).trans g0; have k1 := (b2.cell (p := ⟨b, off + q * 4 + 1, none⟩) (by show b < _; omega)).trans g1; have k2 := (b2.cell (p := ⟨b, off + q * 4 + 2, none⟩) (by show b < _; omega)).trans g2; have k3 := (b2.cell (p := ⟨b, off + q * 4 + 3, none⟩) (by show b < _; omega)).trans g3; clear c5 g0 g1 g2 g3) | ((go_at_call 33); (with_reducible refine (hih _ b2).mono ?_); rintro e w3 ⟨rfl, b3⟩))
        go_roundw
        case rel => exact ⟨q + 1, _, by omega, by go_num, rfl, (hbw.trans (b2.mono hws)).trans (b3.mono (Nat.le_trans hws b2.size)), by rw [HE0.out]; simp [bl_app, bl_of]⟩
        case measure => simp [intOf]; omega
    · have HF := Lib.hid (show T = bl S from by rw [HTS.out, List.drop_of_length_le (show ps.length ≤ q by omega)]; simp [pts])
      have hSz : S.size + 2 ≤ 100000000000 := by have h1 := hTl; rw [HF.out] at h1; exact h1
      have za : ((⟨#[123]⟩ : ByteArray) ++ S).size ≤ 100000000000 := by rw [ByteArray.size_append]; have : (⟨#[123]⟩ : ByteArray).size = 1 := rfl; omega
      go_wp2_with fail
      go_ret
      refine ⟨?_, BW⟩
      rw [HX.out, HF.out]
      exact of_bytes _ _ (by simp only [bl_app]; rfl)


set_option maxHeartbeats 4000000 in
set_option maxRecDepth 100000 in
theorem reftext_any : ∀ (m B n : Nat) (x : JV) (v : Value) (w : World), B ≤ w.heap.size → Rd w B n x v → chkAt m x = true → (txt m x).length ≤ 100000000000 → Calls Tryd.prog 33 #[v] w (StrBelow w (txt m x)) := by
  intro m
  induction m with
  | zero => intro B n x v w _ _ h; cases h
  | succ m ih =>
    intro B n x v w hB h hc hlen
    match n, h with
    | n + 1, h =>
    obtain ⟨k, s, ns, ps⟩ := x
    have hc0 := hc
    unfold chkAt at hc
    rw [Bool.and_eq_true] at hc
    by_cases h7 : k = 7
    · subst h7
      exact reftext_7 m ih B n s ns ps v w hB h hc.2 hlen
    by_cases h8 : k = 8
    · subst h8
      have h1 := hc.1
      rw [self_obj (x := .mk 8 s ns ps) rfl] at h1
      simp only [Bool.and_eq_true, decide_eq_true_eq] at h1
      exact reftext_8 m ih B n s ns ps v w hB h hc.2 h1.1.2 hlen
    obtain ⟨an, cn, ap, cp, rfl, ⟨z1, z2, z3, z4, z5⟩, hs, hr⟩ := h
    simp only [JV.k, JV.s, JV.ns, JV.ps] at *
    have hbA : ∀ o, Below w.heap.size w (w.alloc o) := fun o => (Below.refl _ w).alloc (Nat.le_refl _) o
    clear hc hc0 ih hs hr hlen
    by_cases h1 : k = 1
    · subst h1
      have HX := Lib.hid (txt_null (m := m) (x := .mk 1 s ns ps) rfl)
      go_enter Tryd.func33, Tryd.ntmps33
      go_wp2_with fail
      go_ret
      refine ⟨?_, hbA _⟩
      rw [HX.out]
      rfl
    by_cases h5 : k = 5
    · subst h5
      have HX := Lib.hid (txt_str (m := m) (x := .mk 5 s ns ps) rfl)
      have hq := fun W => refQuote_any s W (by omega)
      go_enter Tryd.func33, Tryd.ntmps33
      go_wp2_with ((go_at_call 48); (with_reducible refine (hq _).mono ?_); rintro e w2 ⟨rfl, b2⟩)
      go_ret
      refine ⟨?_, (hbA _).trans (b2.mono (by simp))⟩
      rw [HX.out]
      rfl
    have HX := Lib.hid (txt_leaf (m := m) (x := .mk k s ns ps) h1 h5 h7 h8)
    have f1 : (k == 1) = false := by simpa using h1
    have f5 : (k == 5) = false := by simpa using h5
    have f7 : (k == 7) = false := by simpa using h7
    have f8 : (k == 8) = false := by simpa using h8
    clear h1 h5 h7 h8
    go_enter Tryd.func33, Tryd.ntmps33
    go_wp2_with fail
    go_ret
    refine ⟨?_, hbA _⟩
    rw [HX.out]
    exact of_bytes _ _ rfl

theorem strIs_of {w w' : World} {l l' : List UInt8} (h : l = l') (hb : Below w.heap.size w w') : StrBelow w l' (.returned (.string ⟨l.toArray⟩)) w' := by subst h; exact ⟨rfl, hb⟩

set_option maxHeartbeats 400000 in
theorem refText_any (B n : Nat) (x : JV) (v : Value) (w : World) (hB : B ≤ w.heap.size) (h : Rd w B n x v) (hlen : (txt 12 x).length ≤ 100000000000) :
    Calls Tryd.prog 16 #[v] w (StrBelow w (textB x)) := by
  have hc := fun W (hb : Below w.heap.size w W) => refCheck_any B n x v W (Nat.le_trans hB hb.size) (h.below (hb.mono hB))
  have hbA : ∀ o, Below w.heap.size w (w.alloc o) := fun o => (Below.refl _ w).alloc (Nat.le_refl _) o
  have HR := Lib.hid h
  obtain ⟨an, cn, ap, cp, rfl⟩ := h.shape
  cases hk : chkAt 12 x with
  | false =>
    rw [hk] at hc
    have HT := Lib.hid (show [] = textB x by unfold textB; rw [hk]; rfl)
    clear hk
    go_enter Tryd.func16, Tryd.ntmps16
    go_wp2_with ((go_at_call 14); (with_reducible refine (hc _ (hbA _)).mono ?_); rintro e w2 ⟨rfl, b2⟩)
    go_ret
    exact strIs_of HT.out ((hbA _).trans (b2.mono (by simp)))
  | true =>
    rw [hk] at hc
    have HT := Lib.hid (show txt 12 x = textB x by unfold textB; rw [hk]; rfl)
    have ht := fun W (hb : Below w.heap.size w W) => reftext_any 12 B n x _ W (Nat.le_trans hB hb.size) (HR.out.below (hb.mono hB)) hk hlen
    clear hk
    generalize txt 12 x = t at *
    go_enter Tryd.func16, Tryd.ntmps16
    go_wp2_with (first | ((go_at_call 14); (with_reducible refine (hc _ (hbA _)).mono ?_); rintro e w2 ⟨rfl, b2⟩; have bb := (hbA (.cells #[.int .i64 x.k, .string x.s, .slice an x.ns.length cn, .slice ap x.ps.length cp] 25)).trans (b2.mono (by simp)); have y0 := b2.cell (p := ⟨w.heap.size, 0, none⟩) (by simp); have y1 := b2.cell (p := ⟨w.heap.size, 1, none⟩) (by simp); have y2 := b2.cell (p := ⟨w.heap.size, 2, none⟩) (by simp); have y3 := b2.cell (p := ⟨w.heap.size, 3, none⟩) (by simp)) | ((go_at_call 33); (with_reducible refine (ht _ bb).mono ?_); rintro e w3 ⟨rfl, b3⟩))
    go_ret
    exact strIs_of HT.out (bb.trans (b3.mono bb.size))

end Go.Proofs.YthmoadkkadlefaaDoor
