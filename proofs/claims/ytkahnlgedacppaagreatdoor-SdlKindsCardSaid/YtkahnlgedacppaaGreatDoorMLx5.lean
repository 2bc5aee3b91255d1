/-
  What lex's functions answer of block texts.
-/
import Derived.Test.YtkahnlgedacppaaGreatDoorMLx3
import Derived.Test.YtkahnlgedacppaaGreatDoorMLx1
import Derived.Test.YtkahnlgedacppaaGreatDoorMShelf
import Derived.WalkMore
import Derived.Scope
import Derived.Deep.QuietTactic
import Derived.BigQuiet
namespace Go.Proofs.YtkahnlgedacppaaGreatDoor
open Go.RowKit

def lxCutP (l : List UInt8) : Option (List UInt8 × Nat) := lxCut l.length 3 [] (l.drop 3)
def cutV : Option (List UInt8 × Nat) → Value
  | none => .tuple #[.string ⟨#[]⟩, .int .i64 0]
  | some (r, n) => .tuple #[.string ⟨r.toArray⟩, .int .i64 n]
def CutIs (w : World) (o : Option (List UInt8 × Nat)) (e : Ending) (w' : World) : Prop := e = .returned (cutV o) ∧ Below w.heap.size w w'
theorem cut_no {w w' : World} {o : Option (List UInt8 × Nat)} (h : o = none) (hb : Below w.heap.size w w') : CutIs w o (.returned (.tuple #[.string ⟨#[]⟩, .int .i64 0])) w' := by subst h; exact ⟨rfl, hb⟩
theorem cut_yes {w w' : World} {o : Option (List UInt8 × Nat)} {r : List UInt8} {z : Int} {n : Nat} (h : o = some (r, n)) (hz : z = n) (hb : Below w.heap.size w w') : CutIs w o (.returned (.tuple #[.string ⟨r.toArray⟩, .int .i64 z])) w' := by subst h hz; exact ⟨rfl, hb⟩

theorem lxCut_end (f i : Nat) (acc : List UInt8) : lxCut f i acc [] = none := by cases f <;> rfl
theorem lxCut_fence (s : ByteArray) (f i : Nat) (acc : List UInt8) (h : i < s.size) (hp : Lib.hasPrefix (s.data.toList.drop i) lxFence = true) : lxCut (f + 1) i acc (s.data.toList.drop i) = some (acc, i + 3) := by
  rw [drop_cons s i h] at hp ⊢
  rw [lxCut, if_pos hp]
theorem lxCut_esc (s : ByteArray) (f i : Nat) (acc : List UInt8) (h : i < s.size) (hp : Lib.hasPrefix (s.data.toList.drop i) lxFence = false) (he : Lib.hasPrefix (s.data.toList.drop i) lxEsc = true) : lxCut (f + 1) i acc (s.data.toList.drop i) = lxCut f (i + 4) (acc ++ lxFence) (s.data.toList.drop (i + 4)) := by
  rw [drop_cons s i h] at hp he ⊢
  rw [lxCut, if_neg (by rw [hp]; decide), if_pos he, List.drop_drop]
theorem lxCut_one (s : ByteArray) (f i : Nat) (acc : List UInt8) (h : i < s.size) (hp : Lib.hasPrefix (s.data.toList.drop i) lxFence = false) (he : Lib.hasPrefix (s.data.toList.drop i) lxEsc = false) : lxCut (f + 1) i acc (s.data.toList.drop i) = lxCut f (i + 1) (acc ++ [s[i]]) (s.data.toList.drop (i + 1)) := by
  rw [drop_cons s i h] at hp he ⊢
  rw [lxCut, if_neg (by rw [hp]; decide), if_neg (by rw [he]; decide)]

/-- The loop of cutBlock. -/
def CutRel (s : ByteArray) (w : World) (v : Value) (wr : World) : Prop :=
  ∃ (i f : Nat) (acc : List UInt8), v = .int .i64 i ∧ 3 ≤ i ∧ i ≤ s.size + 3 ∧ s.size ≤ f + i ∧ acc.length ≤ i ∧ Bld 130 w.heap.size w.heap.size [] (Lib.byteCells acc) wr ∧ Below w.heap.size w wr ∧ lxCut f i acc (s.data.toList.drop i) = lxCutP s.data.toList

set_option maxHeartbeats 2000000 in
set_option maxRecDepth 100000 in
theorem cutBlock_any (s : ByteArray) (w : World) (hs : s.size ≤ 1000000000) : Calls Tryz.prog 226 #[.string s] w (CutIs w (lxCutP s.data.toList)) := by
  have HB := Bld.fresh 130 [] w
  have hbA : Below w.heap.size w (w.alloc (.cells #[.pointer none, .slice none 0 0] 130)) := (Below.refl _ w).alloc (Nat.le_refl _) _
  go_enter Tryz.func226, Tryz.ntmps226
  go_wp2_with fail
  go_loopw [5] (fun v wr => CutRel s w v wr) (fun v _ => s.size + 3 - (intOf v).toNat)
  case atStart => exact ⟨3, s.size, [], rfl, Nat.le_refl _, by omega, by omega, by simp, HB, hbA, rfl⟩
  case round =>
    obtain ⟨i, f, acc, rfl, hi1, hi2, hf, hacc, hB, hbw, hres⟩ := hrel
    have HR := Lib.hid hres
    clear HB hbA hres
    have hlt := hB.lt
    by_cases hil : i < s.size
    · have hd1 : decide ((i : Int) < s.size) = true := decide_eq_true (by omega)
      obtain ⟨f, rfl⟩ : ∃ f', f = f' + 1 := ⟨f - 1, by omega⟩
      have hP1 := fun W => turnW (Tryz.strings_HasPrefix (s.extract i s.size) ⟨lxFence.toArray⟩ W)
      have hP2 := fun W => turnW (Tryz.strings_HasPrefix (s.extract i s.size) ⟨lxEsc.toArray⟩ W)
      rw [toArray_list, lext_all] at hP1 hP2
      cases h1 : Lib.hasPrefix (s.data.toList.drop i) lxFence with
      | true =>
        rw [h1] at hP1
        have HY := Lib.hid (show lxCutP s.data.toList = some (acc, i + 3) by rw [← HR.out]; exact lxCut_fence s f i acc hil h1)
        clear h1 hP2
        go_wp2_with fail
        refine (hP1 _).mono ?_
        rintro e w1 ⟨rfl, rfl⟩
        go_wp2_with fail
        refine (string_any acc hB (by omega)).mono ?_
        rintro e w2 ⟨rfl, b2⟩
        go_wp2_with fail
        go_ret2
        exact cut_yes HY.out (by omega) (hbw.trans b2)
      | false =>
        rw [h1] at hP1
        cases h2 : Lib.hasPrefix (s.data.toList.drop i) lxEsc with
        | true =>
          rw [h2] at hP2
          have HY := Lib.hid (show lxCut f (i + 4) (acc ++ lxFence) (s.data.toList.drop (i + 4)) = lxCutP s.data.toList by rw [← HR.out]; exact (lxCut_esc s f i acc hil h1 h2).symm)
          have hl4 : i + 4 ≤ s.size := by
            have h := (List.isPrefixOf_iff_prefix.1 h2).length_le
            rw [len_drop] at h
            have : lxEsc.length = 4 := rfl
            omega
          clear h1 h2
          go_wp2_with fail
          refine (hP1 _).mono ?_
          rintro e w1 ⟨rfl, rfl⟩
          go_wp2_with fail
          refine (hP2 _).mono ?_
          rintro e w1 ⟨rfl, rfl⟩
          go_wp2_with fail
          refine (writeString_any ⟨lxFence.toArray⟩ Fit.plain hB (by rw [Lib.byteCells_length]; show acc.length + 3 ≤ _; omega) (by omega)).mono ?_
          rintro e w2 ⟨rfl, h2, b2, k2⟩
          go_wp2_with fail
          go_roundw
          case rel => exact ⟨i + 4, f, acc ++ lxFence, by go_num, by omega, by omega, by omega, by rw [List.length_append]; show acc.length + 3 ≤ _; omega, by rw [Lib.byteCells_append]; exact h2, hbw.trans b2, HY.out⟩
          case measure => simp [intOf]; omega
        | false =>
          rw [h2] at hP2
          have HY := Lib.hid (show lxCut f (i + 1) (acc ++ [s[i]]) (s.data.toList.drop (i + 1)) = lxCutP s.data.toList by rw [← HR.out]; exact (lxCut_one s f i acc hil h1 h2).symm)
          clear h1 h2
          go_wp2_with fail
          refine (hP1 _).mono ?_
          rintro e w1 ⟨rfl, rfl⟩
          go_wp2_with fail
          refine (hP2 _).mono ?_
          rintro e w1 ⟨rfl, rfl⟩
          go_wp2_with fail
          refine (writeByte_any s[i].toNat Fit.plain hB (by rw [Lib.byteCells_length]; omega) (by omega)).mono ?_
          rintro e w2 ⟨rfl, h2, b2, k2⟩
          go_wp2_with fail
          go_roundw
          case rel => exact ⟨i + 1, f, acc ++ [s[i]], by go_num, by omega, by omega, by omega, by rw [List.length_append]; simp; omega, by rw [Lib.byteCells_append]; exact h2, hbw.trans b2, HY.out⟩
          case measure => simp [intOf]; omega
    · have hd1 : decide ((i : Int) < s.size) = false := decide_eq_false (by omega)
      have HY := Lib.hid (show lxCutP s.data.toList = none by rw [← HR.out, drop_end s i hil, lxCut_end])
      go_wp2_with fail
      go_ret2
      exact cut_no HY.out hbw

/-! ### which bytes a block text may have -/
def rawR (c : Int) : Bool := !(decide (c < 32) && c != 9 && c != 10 && c != 13)
theorem rawR_high {c : Int} (h : 128 ≤ c) : rawR c = true := by
  unfold rawR
  rw [show decide (c < 32) = false from decide_eq_false (by omega)]
  rfl
theorem rawU_R (b : UInt8) : rawU b = rawR b.toNat := by
  have e : ∀ n : Nat, n < 256 → (b != UInt8.ofNat n) = ((b.toNat : Int) != n) := fun n hn => by
    rw [Bool.eq_iff_iff]
    simp only [bne_iff_ne, ne_eq, ← UInt8.toNat_inj]
    rw [UInt8.toNat_ofNat_of_lt' (by simpa using hn)]
    omega
  have e1 := e 9 (by decide)
  have e2 := e 10 (by decide)
  have e3 := e 13 (by decide)
  unfold rawU rawR
  rw [show (b != 9) = _ from e1, show (b != 10) = _ from e2, show (b != 13) = _ from e3]
  have e4 : decide (b.toNat < 32) = decide ((b.toNat : Int) < 32) := by rw [decide_eq_decide]; omega
  rw [e4]
  rfl
theorem raw_step (l : List UInt8) (hne : l ≠ []) : l.all rawU = (rawR (Lib.decodeL l).1 && (l.drop (Lib.decodeL l).2).all rawU) := by
  obtain ⟨b, t, rfl⟩ : ∃ b t, l = b :: t := by
    cases l with
    | nil => exact absurd rfl hne
    | cons b t => exact ⟨b, t, rfl⟩
  by_cases ha : b.toNat < 128
  · rw [Lib.decodeL_ascii b t ha]
    show (rawU b && t.all rawU) = (rawR (b.toNat : Int) && t.all rawU)
    rw [rawU_R]
  · have hh : 128 ≤ (Lib.decodeL (b :: t)).1 := by
      rw [Lib.decodeL_N]
      exact decodeN_high _ _ _ _ _ ha
    have hu : ∀ c : UInt8, 128 ≤ c.toNat → rawU c = true := fun c hc => by rw [rawU_R]; exact rawR_high (by omega)
    rw [rawR_high (by omega), Bool.true_and]
    by_cases hb : (Lib.decodeL (b :: t)).1 = 65533 ∧ (Lib.decodeL (b :: t)).2 = 1
    · rw [hb.2]
      show (rawU b && t.all rawU) = t.all rawU
      rw [hu b (by omega), Bool.true_and]
    · have hed := Lib.encode_decode (b :: t) hne hb
      conv => lhs; rw [← List.take_append_drop (Lib.decodeL (b :: t)).2 (b :: t)]
      rw [List.all_append, ← hed, List.all_eq_true.2 (fun c hc => hu c (encodeRune_high (by omega) c hc)), Bool.true_and]

set_option maxHeartbeats 1000000 in
set_option maxRecDepth 100000 in
theorem isRaw_any (s : ByteArray) (w : World) : Calls Tryz.prog 227 #[.string s] w fun e w' => e = .returned (.bool (lxRaw s.data.toList)) ∧ Below w.heap.size w w' := by
  go_enter Tryz.func227, Tryz.ntmps227
  go_wp2_with fail
  go_loopw [4] (fun _ wr => ∃ pos : Nat, wr.heap[w.heap.size]? = some (.stringIter s pos) ∧ Below w.heap.size w wr ∧ Hid (s.data.toList.all rawU = (s.data.toList.drop pos).all rawU)) (fun _ wr => s.size - wr.iterPos w.heap.size)
  case atStart => exact ⟨0, World.iter_heap w s 0, (Below.refl _ w).alloc (Nat.le_refl _) _, Lib.hid rfl⟩
  case round =>
    obtain ⟨pos, hit, hbw, HG⟩ := hrel
    have hsz : w.heap.size < wr.heap.size := (Array.getElem?_eq_some_iff.1 hit).1
    by_cases hp : pos < s.size
    · have hnx : ∀ ty, (Instr.next (.pointer (some ⟨w.heap.size, 0, none⟩)) true ty).run Tryz.prog wr = _ := fun ty => Lib.run_next_any_at wr w.heap.size s pos ty hit hp
      have hst := raw_step (s.data.toList.drop pos) (drop_ne s pos hp)
      rw [Lib.decodeL_drop, List.drop_drop] at hst
      have hw : 1 ≤ (Utf8.decode s pos).2 := by rw [← Lib.decodeL_drop]; exact Lib.decodeL_width _
      have hbw2 := Lib.below_iterAt hbw (Nat.le_refl _) s (pos + (Utf8.decode s pos).2)
      have HI := Lib.hid (Lib.iterAt_heap wr w.heap.size s pos (pos + (Utf8.decode s pos).2) hit)
      have HT := Lib.hid hit
      generalize (Utf8.decode s pos).2 = wd at *
      obtain ⟨c, hc⟩ : ∃ c : Int, ((Utf8.decode s pos).1 : Int) = c := ⟨_, rfl⟩
      rw [hc] at hnx hst
      have HS := Lib.hid hst
      clear hst hc
      cases hr : rawR c with
      | false =>
        have HC := Lib.hid hr
        unfold rawR at hr
        simp only [Bool.not_eq_false', Bool.and_eq_true] at hr
        obtain ⟨⟨⟨h1, h2⟩, h3⟩, h4⟩ := hr
        go_wp2_with fail
        go_ret
        exact ⟨ret_bool (by unfold lxRaw; rw [HG.out, HS.out, HC.out]; rfl), hbw2⟩
      | true =>
        have HC := Lib.hid hr
        unfold rawR at hr
        have hk : decide (c < 32) = false ∨ (decide (c < 32) = true ∧ (c != 9) = false) ∨ (decide (c < 32) = true ∧ (c != 9) = true ∧ (c != 10) = false) ∨ (decide (c < 32) = true ∧ (c != 9) = true ∧ (c != 10) = true ∧ (c != 13) = false) := by
          revert hr
          cases decide (c < 32) <;> cases (c != 9) <;> cases (c != 10) <;> cases (c != 13) <;> decide
        clear hr
        rcases hk with h1 | ⟨h1, h2⟩ | ⟨h1, h2, h3⟩ | ⟨h1, h2, h3, h4⟩
        all_goals
          go_wp2_with fail
          go_roundw
          case rel => exact ⟨pos + wd, HI.out, hbw2, Lib.hid (by rw [HG.out, HS.out, HC.out]; rfl)⟩
          case measure =>
            have e1 := iterPos_of HI.out
            have e2 := iterPos_of HT.out
            omega
    · have hnx : ∀ ty, (Instr.next (.pointer (some ⟨w.heap.size, 0, none⟩)) true ty).run Tryz.prog wr = _ := fun ty => Lib.run_next_end_at wr w.heap.size s pos ty hit hp
      have HA := Lib.hid (show s.data.toList.all rawU = true by rw [HG.out, drop_end s pos hp]; rfl)
      go_wp2_with fail
      refine (valid_any _ _).mono ?_
      rintro e w1 ⟨rfl, b1⟩
      go_wp2_with fail
      go_ret
      exact ⟨ret_bool (by unfold lxRaw; rw [HA.out, Bool.true_and]), hbw.trans (b1.mono (by omega))⟩

set_option maxHeartbeats 1000000 in
set_option maxRecDepth 100000 in
theorem lxBlock_any (s : ByteArray) (w : World) (hs : s.size ≤ 90000) : Calls Tryz.prog 179 #[.string s] w (TokIs w (lxBlock s.data.toList)) := by
  have hC := fun W => cutBlock_any s W (by omega)
  have HN := Lib.hid (show lxBlock s.data.toList = match lxCutP s.data.toList with
    | none => none
    | some (raw, n) => if lxRaw raw then some (4, blockB raw, n) else none from rfl)
  cases hc : lxCutP s.data.toList with
  | none =>
    rw [hc] at hC
    have HY := Lib.hid (show lxBlock s.data.toList = none by rw [HN.out, hc])
    clear hc
    go_enter Tryz.func179, Tryz.ntmps179
    go_wp2_with fail
    refine (hC _).mono ?_
    rintro e w1 ⟨rfl, b1⟩
    obtain ⟨q0, q1, q2, qf, hlt, hb⟩ := tok_cells b1
    have q0f := qf 0
    have q1f := qf 1
    have q2f := qf 2
    clear qf b1
    unfold cutV
    go_wp2_with fail
    exact bodyPost_ret (v := .tuple #[.agg #[.int .i64 0, .string ⟨#[]⟩, .int .i64 0], .int .i64 0]) (by simp [results, Tryz.results179, go_sem, q0, q1, q2]) rfl (tok_no HY.out (below_three hb _ _ _))
  | some o =>
    obtain ⟨raw, n⟩ := o
    have hle := lxCut_le _ _ _ _ _ _ hc
    rw [len_drop] at hle
    rw [hc] at hC
    have hn0 : ((n : Int) == 0) = false := by simp; omega
    have hR := fun W => isRaw_any ⟨raw.toArray⟩ W
    have hK := fun W => block_any ⟨raw.toArray⟩ W (by show raw.length ≤ _; have := hle.2.2; simp at this; omega)
    rw [toArray_list] at hR hK
    clear hle
    cases hr : lxRaw raw with
    | true =>
      rw [hr] at hR
      have HY := Lib.hid (show lxBlock s.data.toList = some (4, blockB raw, n) by rw [HN.out, hc]; show (if lxRaw raw = true then _ else _) = _; rw [hr]; rfl)
      clear hc hr
      go_enter Tryz.func179, Tryz.ntmps179
      go_wp2_with fail
      refine (hC _).mono ?_
      rintro e w1 ⟨rfl, b1⟩
      unfold cutV
      go_wp2_with fail
      refine (hR _).mono ?_
      rintro e w2 ⟨rfl, b2⟩
      go_wp2_with fail
      refine (hK _).mono ?_
      rintro e w3 ⟨rfl, b3⟩
      have hb12 := b1.trans (b2.mono b1.size)
      obtain ⟨q0, q1, q2, qf, hlt, hb⟩ := tok_cells (hb12.trans (b3.mono hb12.size))
      have q0f := qf 0
      have q1f := qf 1
      have q2f := qf 2
      clear qf b1 b2 b3 hb12
      go_wp2_with fail
      exact bodyPost_ret (v := .tuple #[.agg #[.int .i64 (4 : Nat), .string ⟨(blockB raw).toArray⟩, .int .i64 0], .int .i64 n]) (by simp [results, Tryz.results179, go_sem, q0, q1, q2]) rfl (tok_yes HY.out (below_three hb _ _ _))
    | false =>
      rw [hr] at hR
      have HY := Lib.hid (show lxBlock s.data.toList = none by rw [HN.out, hc]; show (if lxRaw raw = true then _ else _) = _; rw [hr]; rfl)
      clear hc hr
      go_enter Tryz.func179, Tryz.ntmps179
      go_wp2_with fail
      refine (hC _).mono ?_
      rintro e w1 ⟨rfl, b1⟩
      unfold cutV
      go_wp2_with fail
      refine (hR _).mono ?_
      rintro e w2 ⟨rfl, b2⟩
      obtain ⟨q0, q1, q2, qf, hlt, hb⟩ := tok_cells (b1.trans (b2.mono b1.size))
      have q0f := qf 0
      have q1f := qf 1
      have q2f := qf 2
      clear qf b1 b2
      go_wp2_with fail
      exact bodyPost_ret (v := .tuple #[.agg #[.int .i64 0, .string ⟨#[]⟩, .int .i64 0], .int .i64 0]) (by simp [results, Tryz.results179, go_sem, q0, q1, q2]) rfl (tok_no HY.out (below_three hb _ _ _))

end Go.Proofs.YtkahnlgedacppaaGreatDoor
/-
  strings.IndexAny of an end of a line, at every text; lex.remarkSize.
-/
namespace Go.Proofs.YtkahnlgedacppaaGreatDoor
open Go.RowKit

theorem ret_int {k : IntKind} {a b : Int} (h : a = b) : Ending.returned (.int k a) = .returned (.int k b) := by rw [h]
def endsS : ByteArray := ⟨#[10, 13]⟩

set_option maxHeartbeats 1000000 in
set_option maxRecDepth 100000 in
theorem indexRune_fffd (w : World) : Calls Tryz.prog 219 #[.string endsS, .int .i32 65533] w fun e w' => e = .returned (.int .i64 (-1)) ∧ Below w.heap.size w w' := by
  have hsz : endsS.size = 2 := rfl
  go_enter Tryz.func219, Tryz.ntmps219
  go_wp2_with fail
  go_loopw [5, 6] (fun _ _ wr => ∃ pos : Nat, pos ≤ 2 ∧ wr.heap[w.heap.size]? = some (.stringIter endsS pos) ∧ Below w.heap.size w wr) (fun _ _ wr => 2 - wr.iterPos w.heap.size)
  case atStart => exact ⟨0, by omega, World.iter_heap w endsS 0, (Below.refl _ w).alloc (Nat.le_refl _) _⟩
  case round =>
    obtain ⟨pos, hp2, hit, hbw⟩ := hrel
    by_cases hp : pos < endsS.size
    · have hnx : ∀ ty, (Instr.next (.pointer (some ⟨w.heap.size, 0, none⟩)) true ty).run Tryz.prog wr = _ := fun ty => Lib.run_next_any_at wr w.heap.size endsS pos ty hit hp
      have hd : (Utf8.decode endsS pos).1 < 128 ∧ (Utf8.decode endsS pos).2 = 1 := by
        have : pos = 0 ∨ pos = 1 := by omega
        rcases this with rfl | rfl
        · decide
        · decide
      obtain ⟨hd1, hd2⟩ := hd
      rw [hd2] at hnx
      have hbw2 := Lib.below_iterAt hbw (Nat.le_refl _) endsS (pos + 1)
      have HI := Lib.hid (Lib.iterAt_heap wr w.heap.size endsS pos (pos + 1) hit)
      have HT := Lib.hid hit
      have hne : (((Utf8.decode endsS pos).1 : Int) == 65533) = false := by simp; omega
      clear hd1 hd2
      go_wp2_with fail
      go_roundw
      case rel => exact ⟨pos + 1, by omega, HI.out, hbw2⟩
      case measure =>
        have e1 := iterPos_of HI.out
        have e2 := iterPos_of HT.out
        omega
    · have hnx : ∀ ty, (Instr.next (.pointer (some ⟨w.heap.size, 0, none⟩)) true ty).run Tryz.prog wr = _ := fun ty => Lib.run_next_end_at wr w.heap.size endsS pos ty hit hp
      go_wp2_with fail
      go_ret
      exact ⟨rfl, hbw⟩

theorem two_bytes {E : ByteArray} (h : E.size = 2) (hl : ∀ h : E.size - 1 < E.size, 128 ≤ (E[E.size - 1]'h).toNat) : ∃ a b : UInt8, E = ⟨#[a, b]⟩ ∧ 128 ≤ b.toNat := by
  obtain ⟨⟨l⟩⟩ := E
  match l, h with
  | [a, b], _ => exact ⟨a, b, rfl, hl (by show 2 - 1 < 2; omega)⟩

set_option maxHeartbeats 1000000 in
set_option maxRecDepth 100000 in
theorem indexRune_high (r : Int) (h1 : 128 ≤ r) (w : World) : Calls Tryz.prog 219 #[.string endsS, .int .i32 r] w fun e w' => e = .returned (.int .i64 (-1)) ∧ Below w.heap.size w w' := by
  by_cases h3 : r = 65533
  · subst h3; exact indexRune_fffd w
  · unfold endsS
    have hd0 : decide (0 ≤ r) = true := decide_eq_true (by omega)
    have hd1 : decide (r < 128) = false := decide_eq_false (by omega)
    have hd2 : (r == 65533) = false := by simpa using h3
    have hV := fun W => Tryz.utf8_ValidRune r W
    cases hv : Lib.validRune r with
    | false =>
      rw [hv] at hV
      clear hv
      go_enter Tryz.func219, Tryz.ntmps219
      go_wp2_with fail
      refine (turnW (hV _)).mono ?_
      rintro e w1 ⟨rfl, rfl⟩
      go_wp2_with fail
      go_ret
      exact ⟨rfl, Below.refl _ _⟩
    | true =>
      rw [hv] at hV
      obtain ⟨f1, f2, f3⟩ := encode_facts r (by rw [validRune_eq]; exact hv) h1
      obtain ⟨E, hE⟩ : ∃ E, Utf8.encode r = E := ⟨_, rfl⟩
      rw [hE] at f1 f2 f3
      clear hv
      by_cases h2 : E.size = 2
      · obtain ⟨a, b, rfl, hb⟩ := two_bytes h2 f3
        have hn : ((((⟨#[10, 13]⟩ : ByteArray)[1]'(by decide)).toNat : Int) != (((⟨#[a, b]⟩ : ByteArray)[1]'(by show 1 < 2; omega)).toNat : Int)) = true := by
          show ((13 : Int) != (b.toNat : Int)) = true
          simp; omega
        have hI : ∀ (t : ByteArray) (W : World), t.data.toList = [] → Calls Tryz.prog 222 #[.string t, .int .u8 b.toNat] W fun e w' => e = .returned (.int .i64 (-1)) ∧ w' = W := fun t W ht => by
          have := Tryz.strings_IndexByte t b.toNat W
          rw [ht] at this
          exact this
        clear f1 f2 f3 h2
        go_enter Tryz.func219, Tryz.ntmps219
        go_wp2_with fail
        refine (turnW (hV _)).mono ?_
        rintro e w1 ⟨rfl, rfl⟩
        go_wp2_with fail
        refine wp_scope_straight ?_
        go_wp2_with fail
        refine wp_loop_rounds 1 ?_
        rw [rounds_succ]
        go_wp2_with fail
        (first | refine wp_scope_straight ?_ | skip)
        go_wp2_with fail
        go_quiet (fail)
        generalize hW : w.drewN _ = W1
        have hbN : Below w.heap.size w W1 := by rw [← hW]; exact ⟨rfl, rfl, rfl, Nat.le_refl _, fun _ _ => rfl⟩
        clear hW
        go_wp2_with fail
        go_quiet ((go_at_call 222; exact Calls.quiet_of_same (hI _ _ rfl)))
        go_wp2_with fail
        simp only [Exit.noGoto, Exit.inBlock, Exit.then]
        go_ret
        exact ⟨rfl, hbN.trans ⟨rfl, rfl, rfl, Nat.le_refl _, fun _ _ => rfl⟩⟩
      · have hlt : ¬ ((E.size : Int) - 1 < 2) := by omega
        have hl2 : decide ((E.size : Int) - 1 < 2) = false := decide_eq_false hlt
        clear f3 h2
        go_enter Tryz.func219, Tryz.ntmps219
        go_wp2_with fail
        refine (turnW (hV _)).mono ?_
        rintro e w1 ⟨rfl, rfl⟩
        go_wp2_with fail
        refine wp_scope_straight ?_
        go_wp2_with fail
        refine wp_loop_rounds 1 ?_
        rw [rounds_succ]
        go_wp2_with fail
        simp only [Exit.noGoto, Exit.inBlock]
        go_ret
        exact ⟨rfl, Below.refl _ _⟩

/-! ### IndexAny of an end of a line -/
theorem ends_has (b : UInt8) : endsS.data.toList.contains b = lxEnd b := by
  show ([10, 13] : List UInt8).contains b = _
  rw [Bool.eq_iff_iff]
  simp [lxEnd]
theorem lxRem_cons (b : UInt8) (r : List UInt8) : lxRem (b :: r) = if lxEnd b then 0 else lxRem r + 1 := by
  unfold lxRem
  rw [List.takeWhile_cons]
  cases lxEnd b <;> simp
theorem indexAny_rem (l : List UInt8) : Lib.indexAny l endsS.data.toList = if lxRem l < l.length then (lxRem l : Int) else -1 := by
  induction l with
  | nil => rfl
  | cons b r ih =>
    have hle := lxRem_le r
    rw [Lib.indexAny, ends_has, lxRem_cons, ih]
    cases lxEnd b with
    | true => simp
    | false =>
      by_cases h : lxRem r < r.length
      · rw [if_pos h]
        have h1 : ((lxRem r : Int) == -1) = false := beq_eq_false_iff_ne.2 (by omega)
        simp [h1, h]
      · rw [if_neg h]
        simp [h]
theorem rem_all (l : List UInt8) (h : ∀ b ∈ l, lxEnd b = false) (t : List UInt8) : lxRem (l ++ t) = l.length + lxRem t := by
  induction l with
  | nil => simp
  | cons b r ih =>
    rw [List.cons_append, lxRem_cons, h b (by simp), ih fun c hc => h c (by simp [hc])]
    simp
    omega
theorem end_high {b : UInt8} (h : 128 ≤ b.toNat) : lxEnd b = false := by
  unfold lxEnd
  rw [Bool.or_eq_false_iff]
  constructor <;> (rw [beq_eq_false_iff_ne]; intro e; subst e; revert h; decide)
theorem rem_step (l : List UInt8) (hne : l ≠ []) (h : 128 ≤ (Lib.decodeL l).1) : lxRem l = (Lib.decodeL l).2 + lxRem (l.drop (Lib.decodeL l).2) ∧ (Lib.decodeL l).2 ≤ l.length := by
  obtain ⟨b, t, rfl⟩ : ∃ b t, l = b :: t := by
    cases l with
    | nil => exact absurd rfl hne
    | cons b t => exact ⟨b, t, rfl⟩
  have ha : ¬ b.toNat < 128 := fun ha => by
    rw [Lib.decodeL_ascii b t ha] at h
    have : 128 ≤ b.toNat := h
    omega
  by_cases hb : (Lib.decodeL (b :: t)).1 = 65533 ∧ (Lib.decodeL (b :: t)).2 = 1
  · rw [hb.2, lxRem_cons, end_high (by omega)]
    simp
    omega
  · have hed := Lib.encode_decode (b :: t) hne hb
    have hw := Lib.decodeL_le (b :: t) hne
    refine ⟨?_, hw⟩
    conv => lhs; rw [← List.take_append_drop (Lib.decodeL (b :: t)).2 (b :: t)]
    rw [rem_all _ (fun c hc => end_high (encodeRune_high (c := ((Lib.decodeL (b :: t)).1 : Int)) (by omega) c (by rw [hed]; exact hc))), List.length_take, Nat.min_eq_left hw]
theorem rem_low (l : List UInt8) (hne : l ≠ []) (h : (Lib.decodeL l).1 < 128) : ∃ b t, l = b :: t ∧ (Lib.decodeL l).1 = b.toNat ∧ (Lib.decodeL l).2 = 1 ∧ lxRem l = if lxEnd b then 0 else lxRem t + 1 := by
  obtain ⟨b, t, rfl⟩ : ∃ b t, l = b :: t := by
    cases l with
    | nil => exact absurd rfl hne
    | cons b t => exact ⟨b, t, rfl⟩
  by_cases ha : b.toNat < 128
  · exact ⟨b, t, rfl, by rw [Lib.decodeL_ascii b t ha], by rw [Lib.decodeL_ascii b t ha], lxRem_cons b t⟩
  · exfalso
    rw [Lib.decodeL_N] at h
    have := decodeN_high (b :: t).length ((b :: t).getD 0 0).toNat ((b :: t).getD 1 0).toNat ((b :: t).getD 2 0).toNat ((b :: t).getD 3 0).toNat ha
    omega

theorem indexRune_end (b : UInt8) (hb : b.toNat < 128) (w : World) : Calls Tryz.prog 219 #[.string endsS, .int .i32 b.toNat] w fun e w' => ∃ z : Int, e = .returned (.int .i64 z) ∧ decide (0 ≤ z) = lxEnd b ∧ Below w.heap.size w w' := by
  refine (Tryz.strings_IndexRune_ascii endsS b.toNat w (by omega) (by omega)).mono ?_
  rintro e w1 ⟨rfl, hw⟩
  exact ⟨_, rfl, by rw [u8_back, idx_ge, ends_has], by rw [hw]; exact Below.refl _ _⟩

set_option maxHeartbeats 1000000 in
set_option maxRecDepth 100000 in
theorem indexAny_short (s : ByteArray) (w : World) (h8 : s.size ≤ 8) : Calls Tryz.prog 174 #[.string s, .string endsS] w fun e w' => e = .returned (.int .i64 (Lib.indexAny s.data.toList endsS.data.toList)) ∧ Below w.heap.size w w' := by
  have hU := fun W => turnW (Tryz.strings_shouldUseASCIISet (s.size : Int) W)
  rw [show decide ((8 : Int) < (s.size : Int)) = false from decide_eq_false (by omega)] at hU
  have HX := Lib.hid (indexAny_rem s.data.toList)
  have hez : (endsS.size : Int) = 2 := rfl
  have hem : endsS.toList.isEmpty = false := by rw [Lib.toList_data]; rfl
  go_enter Tryz.func174, Tryz.ntmps174
  go_wp2_with fail
  refine (hU _).mono ?_
  rintro e w1 ⟨rfl, rfl⟩
  go_wp2_with fail
  go_loopw [9, 10] (fun _ _ wr => ∃ pos : Nat, pos ≤ s.size ∧ wr.heap[w.heap.size]? = some (.stringIter s pos) ∧ Below w.heap.size w wr ∧ Hid (lxRem s.data.toList = pos + lxRem (s.data.toList.drop pos))) (fun _ _ wr => s.size - wr.iterPos w.heap.size)
  case atStart => exact ⟨0, by omega, World.iter_heap w s 0, (Below.refl _ w).alloc (Nat.le_refl _) _, Lib.hid (by simp)⟩
  case round =>
    obtain ⟨pos, hps, hit, hbw, HG⟩ := hrel
    have hsz : w.heap.size < wr.heap.size := (Array.getElem?_eq_some_iff.1 hit).1
    by_cases hp : pos < s.size
    · have hnx : ∀ ty, (Instr.next (.pointer (some ⟨w.heap.size, 0, none⟩)) true ty).run Tryz.prog wr = _ := fun ty => Lib.run_next_any_at wr w.heap.size s pos ty hit hp
      have hw : 1 ≤ (Utf8.decode s pos).2 := by rw [← Lib.decodeL_drop]; exact Lib.decodeL_width _
      have hbw2 := Lib.below_iterAt hbw (Nat.le_refl _) s (pos + (Utf8.decode s pos).2)
      have HI := Lib.hid (Lib.iterAt_heap wr w.heap.size s pos (pos + (Utf8.decode s pos).2) hit)
      have HT := Lib.hid hit
      have hz2 : (wr.iterAt w.heap.size s (pos + (Utf8.decode s pos).2)).heap.size = wr.heap.size := Lib.iterAt_size _ _ _ _
      by_cases hlo : (Lib.decodeL (s.data.toList.drop pos)).1 < 128
      · obtain ⟨b, t, ht, hr, hwd, hrem⟩ := rem_low (s.data.toList.drop pos) (drop_ne s pos hp) hlo
        have ht2 : s.data.toList.drop (pos + 1) = t := by rw [← List.drop_drop, ht]; rfl
        rw [Lib.decodeL_drop] at hr hwd hlo
        have hb : b.toNat < 128 := by omega
        have hC := fun W => indexRune_end b hb W
        rw [hr, hwd] at hnx
        rw [hwd] at hbw2 HI hz2
        have HR := Lib.hid hrem
        have HT2 := Lib.hid ht2
        clear ht hr hwd hrem ht2 hlo hw
        have HZ := Lib.hid hz2
        clear hz2
        cases he : lxEnd b with
        | true =>
          rw [he] at hC
          have HY := Lib.hid (show lxRem s.data.toList = pos by rw [HG.out, HR.out, he]; rfl)
          go_wp2_with fail
          refine (hC _).mono ?_
          rintro e w2 ⟨z, rfl, hz, b2⟩
          go_wp2_with fail
          go_ret
          refine ⟨ret_int (by rw [HX.out, HY.out, if_pos (show pos < s.data.toList.length from hp)]), hbw2.trans (b2.mono (by rw [HZ.out]; omega))⟩
        | false =>
          rw [he] at hC
          have HY := Lib.hid (show lxRem s.data.toList = pos + 1 + lxRem (s.data.toList.drop (pos + 1)) by rw [HG.out, HR.out, he, HT2.out]; simp; omega)
          go_wp2_with fail
          refine (hC _).mono ?_
          rintro e w2 ⟨z, rfl, hz, b2⟩
          have HI2 := Lib.hid ((b2.block w.heap.size (by rw [HZ.out]; omega)).trans HI.out)
          go_wp2_with fail
          go_roundw
          case rel => exact ⟨pos + 1, by omega, HI2.out, hbw2.trans (b2.mono (by rw [HZ.out]; omega)), HY⟩
          case measure =>
            have e1 := iterPos_of HI2.out
            have e2 := iterPos_of HT.out
            omega
      · obtain ⟨hrem, hwl⟩ := rem_step (s.data.toList.drop pos) (drop_ne s pos hp) (by omega)
        rw [Lib.decodeL_drop] at hlo hrem hwl
        rw [len_drop] at hwl
        rw [List.drop_drop] at hrem
        have hC := fun W => indexRune_high (Utf8.decode s pos).1 (by omega) W
        have HY := Lib.hid (show lxRem s.data.toList = pos + (Utf8.decode s pos).2 + lxRem (s.data.toList.drop (pos + (Utf8.decode s pos).2)) by rw [HG.out, hrem]; omega)
        clear hrem hlo
        generalize (Utf8.decode s pos).2 = wd at *
        generalize ((Utf8.decode s pos).1 : Int) = r at *
        have HZ := Lib.hid hz2
        clear hz2
        go_wp2_with fail
        refine (hC _).mono ?_
        rintro e w2 ⟨rfl, b2⟩
        have HI2 := Lib.hid ((b2.block w.heap.size (by rw [HZ.out]; omega)).trans HI.out)
        go_wp2_with fail
        go_roundw
        case rel => exact ⟨pos + wd, by omega, HI2.out, hbw2.trans (b2.mono (by rw [HZ.out]; omega)), HY⟩
        case measure =>
          have e1 := iterPos_of HI2.out
          have e2 := iterPos_of HT.out
          omega
    · have hnx : ∀ ty, (Instr.next (.pointer (some ⟨w.heap.size, 0, none⟩)) true ty).run Tryz.prog wr = _ := fun ty => Lib.run_next_end_at wr w.heap.size s pos ty hit hp
      have HY := Lib.hid (show lxRem s.data.toList = s.data.toList.length by
        rw [HG.out, drop_end s pos hp]
        show pos + 0 = s.size
        omega)
      go_wp2_with fail
      go_ret
      exact ⟨ret_int (by rw [HX.out, HY.out, if_neg (Nat.lt_irrefl _)]), hbw⟩

theorem indexAny_any (s : ByteArray) (w : World) (hs : s.size ≤ 1000000000) : Calls Tryz.prog 174 #[.string s, .string endsS] w fun e w' => e = .returned (.int .i64 (Lib.indexAny s.data.toList endsS.data.toList)) ∧ Below w.heap.size w w' := by
  by_cases h8 : s.size ≤ 8
  · exact indexAny_short s w h8
  · have h116 : (Tryz.prog.info? (Tryz.lays153_ren.t 116)).map (fun i => (i.zero, i.size)) = some (some (.agg (Array.replicate 256 (.bool false))), 256) := by kernel_rfl
    refine (Any.strings_IndexAny_long Tryz.lays153 (zero_of_info h116).1 (zero_of_info h116).2 s endsS w (by decide) (by omega) (by omega) (by decide) (ascii_of_all (by decide))).mono ?_
    rintro e w1 ⟨rfl, hw⟩
    refine ⟨rfl, ?_⟩
    rw [hw]
    exact ((Below.refl _ _).alloc (Nat.le_refl _) _).alloc (by simp) _

theorem remarkSize_any (s : ByteArray) (w : World) (hs : s.size ≤ 1000000000) : Calls Tryz.prog 133 #[.string s] w fun e w' => e = .returned (.int .i64 (lxRem s.data.toList)) ∧ Below w.heap.size w w' := by
  have hI := fun W => indexAny_any s W hs
  have hle := lxRem_le s.data.toList
  have hl : s.data.toList.length = s.size := rfl
  rw [indexAny_rem] at hI
  by_cases h : lxRem s.data.toList < s.data.toList.length
  · rw [if_pos h] at hI
    generalize lxRem s.data.toList = n at *
    go_enter Tryz.func133, Tryz.ntmps133
    go_wp2_with fail
    refine (hI _).mono ?_
    rintro e w1 ⟨rfl, b1⟩
    go_wp2_with fail
    go_ret
    exact ⟨rfl, b1⟩
  · rw [if_neg h] at hI
    have HN := Lib.hid (show lxRem s.data.toList = s.size by omega)
    clear h hle
    generalize lxRem s.data.toList = n at *
    go_enter Tryz.func133, Tryz.ntmps133
    go_wp2_with fail
    refine (hI _).mono ?_
    rintro e w1 ⟨rfl, b1⟩
    go_wp2_with fail
    go_ret
    exact ⟨ret_int (by rw [HN.out]), b1⟩

end Go.Proofs.YtkahnlgedacppaaGreatDoor
