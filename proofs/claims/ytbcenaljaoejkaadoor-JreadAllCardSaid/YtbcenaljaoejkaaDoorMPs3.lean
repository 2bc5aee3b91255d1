/-
  The document's reader of layer 3: numbers.
-/
import Derived.Test.YtbcenaljaoejkaaDoorMPs1
namespace Go.Proofs.YtbcenaljaoejkaaDoor
open Go.RowKit Go.BigFrame

def nsB (b : UInt8) : Bool := numSigns.data.toList.contains b
theorem nd_at (s : ByteArray) (q : Nat) (h : q < s.size) : nd (s.data.toList.drop q) = if nsB s[q] then nd (s.data.toList.drop (q + 1)) else s.data.toList.drop q := by
  unfold nd Lib.trimLeftS nsB
  rw [drop_cons s q h, List.dropWhile_cons]
theorem nd_end (s : ByteArray) (q : Nat) (h : ¬ q < s.size) : nd (s.data.toList.drop q) = s.data.toList.drop q := by rw [drop_end s q h]; rfl
theorem ns_is (c : UInt8) : nsB c = (digU c || ((c.toNat : Int) == 45) || ((c.toNat : Int) == 43) || ((c.toNat : Int) == 46) || ((c.toNat : Int) == 101) || ((c.toNat : Int) == 69)) := by
  have hd : ∀ n : Fin 256, nsB (UInt8.ofNat n.val) = (digU (UInt8.ofNat n.val) || ((n.val : Int) == 45) || ((n.val : Int) == 43) || ((n.val : Int) == 46) || ((n.val : Int) == 101) || ((n.val : Int) == 69)) := by decide +kernel
  have := hd ⟨c.toNat, c.toNat_lt⟩
  simp only [UInt8.ofNat_toNat] at this
  exact this

/-- What the document's number answers. -/
def PNm (R : Nat) (s : ByteArray) (d t : Bool) (w : World) (l : List UInt8) (e : Ending) (w' : World) : Prop :=
  e = .returned (leaf (if numWhole (nt l) then 3 else 4) (ofL (nt l))) ∧ ∃ p', p' ≤ s.size ∧ s.data.toList.drop p' = nd l ∧ PS w' R s p' (!numOk (nt l)) d t ∧ Aw R w.heap.size w w'

theorem PS.four {W : World} {R : Nat} {s : ByteArray} {p : Nat} {b d t : Bool} (h : PS W R s p b d t) {B : Nat} (hB : R ≠ B) (c0 c1 c2 c3 : Value) : PS ((((W.setCell ⟨B, 0, none⟩ c0).setCell ⟨B, 1, none⟩ c1).setCell ⟨B, 2, none⟩ c2).setCell ⟨B, 3, none⟩ c3) R s p b d t :=
  h.keep (heap_four W B c0 c1 c2 c3 R hB)

def NmRel (R : Nat) (s : ByteArray) (d t : Bool) (p : Nat) (w : World) (k : Nat) (wr : World) : Prop :=
  ∃ q, k = s.size - q ∧ p ≤ q ∧ q ≤ s.size ∧ PS wr R s q false d t ∧ Aw R w.heap.size w wr ∧ Bx wr w.heap.size ∧ nd (s.data.toList.drop p) = nd (s.data.toList.drop q)

set_option maxHeartbeats 8000000 in
set_option maxRecDepth 100000 in
theorem pnumber_any (R : Nat) (s : ByteArray) (p : Nat) (d t : Bool) (w : World) (h : PS w R s p false d t) (hp : p ≤ s.size) (hs : s.size ≤ 4000) :
    Calls Tryd.prog 27 #[.pointer (some ⟨R, 0, none⟩)] w (PNm R s d t w (s.data.toList.drop p)) := by
  have HR := Lib.hid h
  have hRlt := h.lt
  have hne : R ≠ w.heap.size := by omega
  have hne2 : ¬ w.heap.size = R := by omega
  obtain ⟨c0, c1, c2, c3, c4, fz⟩ := h
  go_enter Tryd.func27, Tryd.ntmps27
  go_wp2_with fail
  go_loopg [] (s.size - p) (fun k wr => NmRel R s d t p w k wr)
  case atStart => exact ⟨p, rfl, Nat.le_refl _, hp, HR.out.alloc _, (Aw.refl _ _ _).alloc (Nat.le_refl _) _, Bx.new w, rfl⟩
  case round =>
    clear c0 c1 c2 c3 c4 fz
    obtain ⟨q, rfl, hpq, hq, hr, ha, hbx, hnd⟩ := hrel
    have HND := Lib.hid hnd
    have HR2 := Lib.hid hr
    have HBX := Lib.hid hbx
    obtain ⟨c0, c1, c2, c3, c4, fz⟩ := hr
    clear hnd
    have hzr : w.heap.size < wr.heap.size := World.block_lt_of_cell? wr _ hbx.1
    clear hbx
    by_cases hlt : q < s.size
    · have hd : decide ((q : Int) < s.size) = true := decide_eq_true (by omega)
      have HAT := Lib.hid (nd_at s q hlt)
      have HBL := Lib.hid (ns_is s[q])
      have hdg : ∀ W, Calls Tryd.prog 26 #[.int .u8 (s[q].toNat : Int)] W fun e w' => e = .returned (.bool (digU s[q])) ∧ w' = W := fun W => (refDigit_any _ W).mono fun _ _ x => ⟨x.1, x.2.symm⟩
      cases hg : digU s[q] with
      | true =>
        rw [hg] at hdg
        have HX := Lib.hid (show nd (s.data.toList.drop p) = nd (s.data.toList.drop (q + 1)) by rw [HND.out, HAT.out, HBL.out, hg]; simp)
        go_upto_region 2 with fail
        simp only [List.append_eq, List.cons_append, List.nil_append]
        go_quiet (((go_at_call 26; with_reducible exact Calls.quiet_of_same (hdg _))))
        go_wp2_with fail
        go_roundg (s.size - (q + 1))
        case measure => omega
        case rel => exact ⟨q + 1, rfl, by omega, by omega, (HR2.out.drewN _).setAtI (by omega), (ha.drewN _).set _, HBX.out.keep (Below.heap_setCell _ _ _ _ hne2), HX.out⟩
      | false =>
        rw [hg] at hdg
        cases h0 : ((s[q].toNat : Int) == 45) with
        | true =>
          have HX := Lib.hid (show nd (s.data.toList.drop p) = nd (s.data.toList.drop (q + 1)) by rw [HND.out, HAT.out, HBL.out, hg, h0]; simp)
          go_upto_region 2 with fail
          simp only [List.append_eq, List.cons_append, List.nil_append]
          go_quiet (((go_at_call 26; with_reducible exact Calls.quiet_of_same (hdg _))))
          go_wp2_with fail
          go_roundg (s.size - (q + 1))
          case measure => omega
          case rel => exact ⟨q + 1, rfl, by omega, by omega, (HR2.out.drewN _).setAtI (by omega), (ha.drewN _).set _, HBX.out.keep (Below.heap_setCell _ _ _ _ hne2), HX.out⟩
        | false =>
          cases h1 : ((s[q].toNat : Int) == 43) with
          | true =>
            have HX := Lib.hid (show nd (s.data.toList.drop p) = nd (s.data.toList.drop (q + 1)) by rw [HND.out, HAT.out, HBL.out, hg, h0, h1]; simp)
            go_upto_region 2 with fail
            simp only [List.append_eq, List.cons_append, List.nil_append]
            go_quiet (((go_at_call 26; with_reducible exact Calls.quiet_of_same (hdg _))))
            go_wp2_with fail
            go_roundg (s.size - (q + 1))
            case measure => omega
            case rel => exact ⟨q + 1, rfl, by omega, by omega, (HR2.out.drewN _).setAtI (by omega), (ha.drewN _).set _, HBX.out.keep (Below.heap_setCell _ _ _ _ hne2), HX.out⟩
          | false =>
            cases h2 : ((s[q].toNat : Int) == 46) with
            | true =>
              have HX := Lib.hid (show nd (s.data.toList.drop p) = nd (s.data.toList.drop (q + 1)) by rw [HND.out, HAT.out, HBL.out, hg, h0, h1, h2]; simp)
              go_upto_region 2 with fail
              simp only [List.append_eq, List.cons_append, List.nil_append]
              go_quiet (((go_at_call 26; with_reducible exact Calls.quiet_of_same (hdg _))))
              go_wp2_with fail
              go_roundg (s.size - (q + 1))
              case measure => omega
              case rel => exact ⟨q + 1, rfl, by omega, by omega, (HR2.out.drewN _).setAtI (by omega), (ha.drewN _).set _, HBX.out.keep (Below.heap_setCell _ _ _ _ hne2), HX.out⟩
            | false =>
              cases h3 : ((s[q].toNat : Int) == 101) with
              | true =>
                have HX := Lib.hid (show nd (s.data.toList.drop p) = nd (s.data.toList.drop (q + 1)) by rw [HND.out, HAT.out, HBL.out, hg, h0, h1, h2, h3]; simp)
                go_upto_region 2 with fail
                simp only [List.append_eq, List.cons_append, List.nil_append]
                go_quiet (((go_at_call 26; with_reducible exact Calls.quiet_of_same (hdg _))))
                go_wp2_with fail
                go_roundg (s.size - (q + 1))
                case measure => omega
                case rel => exact ⟨q + 1, rfl, by omega, by omega, (HR2.out.drewN _).setAtI (by omega), (ha.drewN _).set _, HBX.out.keep (Below.heap_setCell _ _ _ _ hne2), HX.out⟩
              | false =>
                cases h4 : ((s[q].toNat : Int) == 69) with
                | true =>
                  have HX := Lib.hid (show nd (s.data.toList.drop p) = nd (s.data.toList.drop (q + 1)) by rw [HND.out, HAT.out, HBL.out, hg, h0, h1, h2, h3, h4]; simp)
                  go_upto_region 2 with fail
                  simp only [List.append_eq, List.cons_append, List.nil_append]
                  go_quiet (((go_at_call 26; with_reducible exact Calls.quiet_of_same (hdg _))))
                  go_wp2_with fail
                  go_roundg (s.size - (q + 1))
                  case measure => omega
                  case rel => exact ⟨q + 1, rfl, by omega, by omega, (HR2.out.drewN _).setAtI (by omega), (ha.drewN _).set _, HBX.out.keep (Below.heap_setCell _ _ _ _ hne2), HX.out⟩
                | false =>
                  have HEX := Lib.hid (show s.data.toList.drop q = nd (s.data.toList.drop p) by rw [HND.out, HAT.out, HBL.out, hg, h0, h1, h2, h3, h4]; rfl)
                  have HNT := Lib.hid (show (s.extract p q).data.toList = nt (s.data.toList.drop p) by
                    unfold nt
                    rw [ext_list, len_drop, ← HEX.out, len_drop]
                    congr 1
                    omega)
                  have hnum : ∀ W, Calls Tryd.prog 35 #[.string (s.extract p q)] W fun e w' => e = .returned (.tuple #[.bool (numWhole (nt (s.data.toList.drop p))), .bool (numOk (nt (s.data.toList.drop p)))]) ∧ w' = W := fun W => by
                    have := refnum_any (s.extract p q) W
                    rw [HNT.out] at this
                    exact this.mono fun _ _ x => ⟨x.1, x.2.symm⟩
                  have hsl := slice_two s p q hpq hq (q : Int) rfl
                  have HX := Lib.hid (show s.extract p q = ofL (nt (s.data.toList.drop p)) by rw [← HNT.out]; exact (of_list _).symm)
                  generalize s.data.toList.drop p = l at *
                  generalize s.extract p q = x at *
                  go_upto_region 2 with fail
                  simp only [List.append_eq, List.cons_append, List.nil_append]
                  go_quiet (((go_at_call 26; with_reducible exact Calls.quiet_of_same (hdg _))))
                  go_upto_region 4 with fail
                  obtain ⟨x0, x1, x2, x3, xz⟩ := HBX.out
                  obtain ⟨ok, hok⟩ : ∃ ok, numOk (nt l) = ok := ⟨_, rfl⟩
                  rw [hok] at hnum
                  have HOK := Lib.hid hok
                  clear hok
                  cases hw : numWhole (nt l) with
                  | false =>
                    rw [hw] at hnum
                    have HW := Lib.hid hw
                    clear hw
                    go_region_with ((go_at_call 35); (with_reducible refine (hnum _).mono ?_); rintro e w1 ⟨rfl, rfl⟩)
                    all_goals
                      go_wp2_with fail
                      go_region_with (fail)
                      all_goals
                        go_wp2_with fail
                        refine bodyPost_ret (v := leaf 4 x) (by simp [results, Tryd.results27, go_sem, x0, x1, x2, x3, leaf]) rfl ?_
                        unfold PNm
                        rw [HOK.out, HW.out, ← HX.out]
                        exact ⟨rfl, q, hq, HEX.out, (((HR2.out.drewN _).setBad _).four hne _ _ _ _).drew, (((ha.drewN _).set _).four (Nat.le_refl _) _ _ _ _).drew⟩
                  | true =>
                    rw [hw] at hnum
                    have HW := Lib.hid hw
                    clear hw
                    go_region_with ((go_at_call 35); (with_reducible refine (hnum _).mono ?_); rintro e w1 ⟨rfl, rfl⟩)
                    all_goals
                      go_wp2_with fail
                      go_region_with (fail)
                      all_goals
                        go_wp2_with fail
                        refine bodyPost_ret (v := leaf 3 x) (by simp [results, Tryd.results27, go_sem, x0, x1, x2, x3, leaf]) rfl ?_
                        unfold PNm
                        rw [HOK.out, HW.out, ← HX.out]
                        exact ⟨rfl, q, hq, HEX.out, (((HR2.out.drewN _).setBad _).four hne _ _ _ _).drew, (((ha.drewN _).set _).four (Nat.le_refl _) _ _ _ _).drew⟩
    · have hd : decide ((q : Int) < s.size) = false := decide_eq_false (by omega)
      have HEX := Lib.hid (show s.data.toList.drop q = nd (s.data.toList.drop p) by rw [HND.out, nd_end s q hlt])
      have HNT := Lib.hid (show (s.extract p q).data.toList = nt (s.data.toList.drop p) by
        unfold nt
        rw [ext_list, len_drop, ← HEX.out, len_drop]
        congr 1
        omega)
      have hnum : ∀ W, Calls Tryd.prog 35 #[.string (s.extract p q)] W fun e w' => e = .returned (.tuple #[.bool (numWhole (nt (s.data.toList.drop p))), .bool (numOk (nt (s.data.toList.drop p)))]) ∧ w' = W := fun W => by
        have := refnum_any (s.extract p q) W
        rw [HNT.out] at this
        exact this.mono fun _ _ x => ⟨x.1, x.2.symm⟩
      have hsl := slice_two s p q hpq hq (q : Int) rfl
      have HX := Lib.hid (show s.extract p q = ofL (nt (s.data.toList.drop p)) by rw [← HNT.out]; exact (of_list _).symm)
      generalize s.data.toList.drop p = l at *
      generalize s.extract p q = x at *
      go_upto_region 2 with fail
      simp only [List.append_eq, List.cons_append, List.nil_append]
      go_quiet (fail)
      go_upto_region 4 with fail
      obtain ⟨x0, x1, x2, x3, xz⟩ := HBX.out
      obtain ⟨ok, hok⟩ : ∃ ok, numOk (nt l) = ok := ⟨_, rfl⟩
      rw [hok] at hnum
      have HOK := Lib.hid hok
      clear hok
      cases hw : numWhole (nt l) with
      | false =>
        rw [hw] at hnum
        have HW := Lib.hid hw
        clear hw
        go_region_with ((go_at_call 35); (with_reducible refine (hnum _).mono ?_); rintro e w1 ⟨rfl, rfl⟩)
        all_goals
          go_wp2_with fail
          go_region_with (fail)
          all_goals
            go_wp2_with fail
            refine bodyPost_ret (v := leaf 4 x) (by simp [results, Tryd.results27, go_sem, x0, x1, x2, x3, leaf]) rfl ?_
            unfold PNm
            rw [HOK.out, HW.out, ← HX.out]
            exact ⟨rfl, q, hq, HEX.out, (((HR2.out.drewN _).setBad _).four hne _ _ _ _).drew, (((ha.drewN _).set _).four (Nat.le_refl _) _ _ _ _).drew⟩
      | true =>
        rw [hw] at hnum
        have HW := Lib.hid hw
        clear hw
        go_region_with ((go_at_call 35); (with_reducible refine (hnum _).mono ?_); rintro e w1 ⟨rfl, rfl⟩)
        all_goals
          go_wp2_with fail
          go_region_with (fail)
          all_goals
            go_wp2_with fail
            refine bodyPost_ret (v := leaf 3 x) (by simp [results, Tryd.results27, go_sem, x0, x1, x2, x3, leaf]) rfl ?_
            unfold PNm
            rw [HOK.out, HW.out, ← HX.out]
            exact ⟨rfl, q, hq, HEX.out, (((HR2.out.drewN _).setBad _).four hne _ _ _ _).drew, (((ha.drewN _).set _).four (Nat.le_refl _) _ _ _ _).drew⟩

end Go.Proofs.YtbcenaljaoejkaaDoor
