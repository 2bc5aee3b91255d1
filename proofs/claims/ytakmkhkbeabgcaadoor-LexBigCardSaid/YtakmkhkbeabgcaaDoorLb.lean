/-
  LexBig: its walk.
-/
import Derived.Test.YtakmkhkbeabgcaaDoorLx7
import Derived.Test.YtakmkhkbeabgcaaDoorSmall
import Derived.Deep.OwnRows
import Derived.WideShapes
namespace Go.Proofs.YtakmkhkbeabgcaaDoor
open Go.RowKit

def bigB (st j : Nat) : UInt8 := if j % st = 0 then 97 else 32
def bigL (st M : Nat) : List UInt8 := (List.range M).map (bigB st)
def bgV (st i j : Nat) : Value := .int .u8 (if j < i then (bigB st j).toNat else 0)
def cnt (st : Nat) : Nat → Nat
  | 0 => 0
  | i + 1 => cnt st i + (if i % st = 0 then 1 else 0)
theorem cnt_le (st i : Nat) : cnt st i ≤ i := by
  induction i with
  | zero => exact Nat.le_refl _
  | succ i ih => unfold cnt; split <;> omega
theorem mod_next {st i : Nat} (hst : 2 ≤ st) (h : i % st = 0) : (i + 1) % st ≠ 0 := by
  rw [Nat.add_mod, h, Nat.mod_eq_of_lt (show 1 < st by omega), Nat.zero_add, Nat.mod_eq_of_lt (show 1 < st by omega)]
  decide

theorem lxG_big (st : Nat) (hst : 2 ≤ st) : ∀ (n i a : Nat) (acc : List Tk), ∃ ts, lxG a ((List.range' i n).map (bigB st)) acc = (ts, 0, 0) ∧ ts.length + cnt st i = acc.length + cnt st (i + n) := by
  intro n
  induction n with
  | zero => exact fun i a acc => ⟨acc, rfl, rfl⟩
  | succ n ih =>
    intro i a acc
    have hr : (List.range' i (n + 1)).map (bigB st) = bigB st i :: (List.range' (i + 1) n).map (bigB st) := by
      rw [List.range'_succ, List.map_cons]
    rw [hr]
    by_cases h : i % st = 0
    · have hb : bigB st i = 97 := if_pos h
      obtain ⟨ts, h1, h2⟩ := ih (i + 1) (a + 1) (acc ++ [⟨1, [97], a⟩])
      refine ⟨ts, ?_, ?_⟩
      · rw [hb, lxG_some a 97 _ acc (by decide) (by decide) (word_a 97 _ (by decide) (fun c hc => by
          cases n with
          | zero => simp at hc
          | succ n =>
            rw [List.range'_succ, List.map_cons] at hc
            simp only [List.head?_cons, Option.some.injEq] at hc
            subst hc
            rw [show bigB st (i + 1) = 32 from if_neg (mod_next hst h)]
            decide))]
        exact h1
      · rw [List.length_append, List.length_singleton] at h2
        rw [cnt, if_pos h] at h2
        have : i + 1 + n = i + (n + 1) := by omega
        rw [this] at h2
        omega
    · have hb : bigB st i = 32 := if_neg h
      obtain ⟨ts, h1, h2⟩ := ih (i + 1) (a + 1) acc
      refine ⟨ts, ?_, ?_⟩
      · rw [hb, lxG_blank _ _ _ _ (by decide)]
        exact h1
      · rw [cnt, if_neg h] at h2
        have : i + 1 + n = i + (n + 1) := by omega
        rw [this] at h2
        omega
theorem lex_big (st M : Nat) (hst : 2 ≤ st) (hM : M ≤ 8000) : ∃ ts, lexP (bigL st M) = (ts, 0, 0) ∧ ts.length = cnt st M := by
  obtain ⟨ts, h1, h2⟩ := lxG_big st hst M 0 0 []
  refine ⟨ts, ?_, ?_⟩
  · rw [lexP_G _ (by simp [bigL]; omega)]
    unfold bigL
    rw [List.range_eq_range']
    exact h1
  · simpa [cnt] using h2
theorem lex_bigger (st M : Nat) (hM : 8000 < M) : lexP (bigL st M) = ([], 0, 3) := by
  unfold lexP
  rw [if_pos (by simp [bigL]; omega)]

theorem lex_len {s : ByteArray} {ts : List Tk} {a c : Nat} (h : lexP s.data.toList = (ts, a, c)) (w : World) (hs : s.size ≤ 1000000000) : Calls Tryd.prog 10 #[.string s] w fun e w' => Below w.heap.size w w' ∧ ∃ ao cap, e = .returned (.tuple #[.slice ao ts.length cap, .int .i64 a, .int .i64 c]) := by
  refine (lexAll_any s w hs).mono ?_
  rintro e w1 ⟨v, he, hown, hb⟩
  rw [h] at he hown
  refine ⟨hb, ?_⟩
  rcases hown.2 with ⟨hv, h0⟩ | ⟨g, cap, cur, hv, _⟩
  · have h0' : ts.length = 0 := h0
    exact ⟨none, 0, by rw [he, hv, h0']⟩
  · exact ⟨_, cap, by rw [he, hv]⟩

theorem infoU8b : (Tryd.prog.info? 5).map (fun i => (i.zero, i.size, i.bytes)) = some (some (.int .u8 0), 1, 1) := by kernel_rfl

theorem big_bytes (st : Nat) (l : List Nat) : (l.map fun j => ((bigB st j).toNat : Int)).map (fun n => UInt8.ofNat n.toNat) = l.map (bigB st) := by
  rw [List.map_map]
  apply List.map_congr_left
  intro j _
  simp
theorem big_row {wr : World} {G st M : Nat} (h : wr.rowIs G 5 M (bgV st M)) (j : Nat) (v : Value) (hj : (((List.range M).map fun j => ((bigB st j).toNat : Int)).map (Value.int .u8))[j]? = some v) : wr.cell? ⟨G, j, none⟩ = some v := by
  have hlt : j < M := by
    have := (List.getElem?_eq_some_iff.1 hj).1
    simpa using this
  rw [h.cell hlt]
  rw [List.getElem?_map, List.getElem?_map, List.getElem?_range hlt] at hj
  simp only [Option.map_some, Option.some.injEq] at hj
  rw [← hj]
  unfold bgV
  rw [if_pos hlt]
theorem big_text {wr : World} {G st M : Nat} (h : wr.rowIs G 5 M (bgV st M)) :
    (convert 43 9 (.slice (some ⟨G, 0, none⟩) M M)).run Tryd.prog wr = .ok (.string ⟨(bigL st M).toArray⟩) wr := by
  have := conv_bytes wr ⟨G, 0, none⟩ ((List.range M).map fun j => ((bigB st j).toNat : Int)) M (fun j v hj => by
    rw [Go.WideShapes.add_plain, Nat.zero_add]
    exact big_row h j v hj)
  rw [List.length_map, List.length_range, big_bytes] at this
  exact this

set_option maxHeartbeats 4000000 in
set_option maxRecDepth 100000 in
theorem lb_walk (n more : Int) (w : World) (u v M st N C : Nat) (hu : u < 5) (hv : v < 30) (hM : M = 7998 + u) (hst : st = 2 + v)
    (HPn : ∀ W, Calls Tryd.prog 13 #[.int .i64 n, .int .i64 5] W fun e w' => e = .returned (.int .i64 (u : Int)) ∧ W = w')
    (HPm : ∀ W, Calls Tryd.prog 13 #[.int .i64 more, .int .i64 30] W fun e w' => e = .returned (.int .i64 (v : Int)) ∧ W = w')
    (hA : ∀ W, Calls Tryd.prog 10 #[.string ⟨(bigL st M).toArray⟩] W fun e w' => Below W.heap.size W w' ∧ ∃ ao cap, e = .returned (.tuple #[.slice ao N cap, .int .i64 0, .int .i64 C]))
    (hC : if 8000 < M then N = 0 ∧ C = 3 else N = cnt st M ∧ C = 0) :
    Calls Tryd.prog 7 #[.int .i64 n, .int .i64 more] w (TrueBelow w) := by
  have hM1 : 7998 ≤ M := by omega
  have hM2 : M ≤ 8002 := by omega
  have hmk : ∀ W : World, (Instr.makeSlice 43 (.int .i64 (7998 + (u : Int))) (.int .i64 (7998 + (u : Int)))).run Tryd.prog W = .ok (.slice (some ⟨W.heap.size, 0, none⟩) M M) (W.alloc (.cells (madeCells #[.int .u8 0] M) 5)) := fun W => by
    have := run_make_row' (P := Tryd.prog) 43 5 (.int .u8 0) 1 Tryd.underlying43 infoU8b rfl .i64 .i64 M (by omega) (by omega) W
    rw [show ((M : Nat) : Int) = 7998 + (u : Int) by omega] at this
    exact this
  have HM := Lib.hid hM
  have HS := Lib.hid hst
  have HC := Lib.hid hC
  have HA := Lib.hid hA
  clear hM hst hC hA
  have BM := Lib.hid (show Below w.heap.size w (w.alloc (.cells (madeCells #[.int .u8 0] M) 5)) from (Below.refl _ w).alloc (Nat.le_refl _) _)
  have RM := Lib.hid (show (w.alloc (.cells (madeCells #[.int .u8 0] M) 5)).rowIs w.heap.size 5 M (bgV st 0) from (World.rowIs_made w (.int .u8 0) M 5).congr fun j _ => by simp [bgV])
  go_enter Tryd.func7, Tryd.ntmps7
  go_wp2_with fail
  refine (HPn _).mono ?_
  rintro e w1 ⟨rfl, rfl⟩
  go_wp2_with fail
  refine (HPm _).mono ?_
  rintro e w1 ⟨rfl, rfl⟩
  go_wp2_with fail
  go_loopw [7, 9] (fun v7 v9 wr => ∃ j : Nat, j ≤ M ∧ v9 = .int .i64 j ∧ v7 = .int .i64 (cnt st j : Nat) ∧ wr.rowIs w.heap.size 5 M (bgV st j) ∧ Below w.heap.size w wr) (fun _ v9 _ => M - (intOf v9).toNat)
  case atStart => exact ⟨0, Nat.zero_le _, rfl, rfl, RM.out, BM.out⟩
  case round =>
    clear BM RM
    obtain ⟨j, hj, rfl, rfl, hrow, hbw⟩ := hrel
    by_cases hlt : j < M
    · have hcl := cnt_le st j
      have g1 : wr.cell? ⟨w.heap.size, j, none⟩ = some (.int .u8 0) := by rw [hrow.cell hlt]; simp [bgV]
      have g2 := hrow.frozen j
      have hrow1 := hrow.set j (.int .u8 32)
      have g3 : (wr.setCell ⟨w.heap.size, j, none⟩ (.int .u8 32)).cell? ⟨w.heap.size, j, none⟩ = some (.int .u8 32) := by rw [hrow1.cell hlt]; simp
      have g4 := hrow1.frozen j
      have hd3 : decide ((j : Int) < 7998 + (u : Int)) = true := decide_eq_true (by have := HM.out; omega)
      have hjm : (j : Int) < (M : Int) := by omega
      have hb1 : Below w.heap.size w (wr.setCell ⟨w.heap.size, j, none⟩ (.int .u8 32)) := hbw.setCell (p := ⟨w.heap.size, j, none⟩) (Nat.le_refl _) _
      have hmod : ∀ b : Bool, decide (j % st = 0) = b → (((j : Int).tmod (2 + (v : Int)) == 0) = b ∧ ((j : Int) % (2 + (v : Int)) == 0) = b) := fun b hb => by
        have e1 : ((j % st : Nat) : Int) = (j : Int) % (2 + (v : Int)) := by rw [HS.out]; simp
        have e2 : (j : Int).tmod (2 + (v : Int)) = (j : Int) % (2 + (v : Int)) := Int.tmod_eq_emod_of_nonneg (by omega)
        rw [e2, ← e1, ← hb]
        have e3 : (((j % st : Nat) : Int) == 0) = decide (j % st = 0) := by rw [Bool.eq_iff_iff]; simp; omega
        exact ⟨e3, e3⟩
      by_cases hz : j % st = 0
      · obtain ⟨m1, m2⟩ := hmod true (decide_eq_true hz)
        have HC2 := Lib.hid (show cnt st (j + 1) = cnt st j + 1 by rw [cnt, if_pos hz])
        have hrow2 : ((wr.setCell ⟨w.heap.size, j, none⟩ (.int .u8 32)).setCell ⟨w.heap.size, j, none⟩ (.int .u8 97)).rowIs w.heap.size 5 M (bgV st (j + 1)) := (hrow1.set j (.int .u8 97)).congr fun i _ => by
          by_cases h1 : i = j
          · subst h1; simp [bgV, bigB, hz]
          · by_cases h2 : i < j
            · have h3 : i < j + 1 := by omega
              simp [bgV, h1, h2, h3]
            · have h3 : ¬ i < j + 1 := by omega
              simp [bgV, h1, h2, h3]
        have hb2 : Below w.heap.size w ((wr.setCell ⟨w.heap.size, j, none⟩ (.int .u8 32)).setCell ⟨w.heap.size, j, none⟩ (.int .u8 97)) := hb1.setCell (p := ⟨w.heap.size, j, none⟩) (Nat.le_refl _) _
        have HRW := Lib.hid hrow2
        clear hrow hrow1 hrow2 hmod hz
        go_wp2_with fail
        go_roundw
        case rel => exact ⟨j + 1, by omega, by go_num, by rw [HC2.out]; go_num, HRW.out, hb2⟩
        case measure => simp [intOf]; omega
      · obtain ⟨m1, m2⟩ := hmod false (decide_eq_false hz)
        have HC2 := Lib.hid (show cnt st (j + 1) = cnt st j by rw [cnt, if_neg hz]; rfl)
        have hrow2 : (wr.setCell ⟨w.heap.size, j, none⟩ (.int .u8 32)).rowIs w.heap.size 5 M (bgV st (j + 1)) := hrow1.congr fun i _ => by
          by_cases h1 : i = j
          · subst h1; simp [bgV, bigB, hz]
          · by_cases h2 : i < j
            · have h3 : i < j + 1 := by omega
              simp [bgV, h1, h2, h3]
            · have h3 : ¬ i < j + 1 := by omega
              simp [bgV, h1, h2, h3]
        have HRW := Lib.hid hrow2
        clear hrow hrow1 hrow2 hmod hz
        go_wp2_with fail
        go_roundw
        case rel => exact ⟨j + 1, by omega, by go_num, by rw [HC2.out], HRW.out, hb1⟩
        case measure => simp [intOf]; omega
    · have hjM : j = M := by omega
      have hd3 : decide ((j : Int) < 7998 + (u : Int)) = false := decide_eq_false (by have := HM.out; omega)
      have hrow' : wr.rowIs w.heap.size 5 M (bgV st M) := by have h := hrow; rw [hjM] at h; exact h
      have hcv := big_text hrow'
      have HJ := Lib.hid hjM
      clear hrow hrow' hjM
      by_cases h8 : 8000 < M
      · have h := HC.out
        rw [if_pos h8] at h
        obtain ⟨rfl, rfl⟩ := h
        have hd4 : decide ((8000 : Int) < 7998 + (u : Int)) = true := decide_eq_true (by have := HM.out; omega)
        go_wp2_with fail
        refine (HA.out _).mono ?_
        rintro e w2 ⟨b2, ao, cap, rfl⟩
        go_wp2_with fail
        refine (lxAwake _).mono ?_
        rintro e w3 ⟨rfl, b3⟩
        go_wp2_with fail
        go_ret
        exact ⟨rfl, (hbw.trans (b2.mono hbw.size)).trans (b3.mono (by have := hbw.size; have := b2.size; omega))⟩
      · have h := HC.out
        rw [if_neg h8, ← HJ.out] at h
        obtain ⟨rfl, rfl⟩ := h
        have hd4 : decide ((8000 : Int) < 7998 + (u : Int)) = false := decide_eq_false (by have := HM.out; omega)
        go_wp2_with fail
        refine (HA.out _).mono ?_
        rintro e w2 ⟨b2, ao, cap, rfl⟩
        go_wp2_with fail
        refine (lxAwake _).mono ?_
        rintro e w3 ⟨rfl, b3⟩
        go_wp2_with fail
        go_ret
        exact ⟨rfl, (hbw.trans (b2.mono hbw.size)).trans (b3.mono (by have := hbw.size; have := b2.size; omega))⟩

theorem lexBig_walk (n more : Int) (w : World) : Calls Tryd.prog 7 #[.int .i64 n, .int .i64 more] w (TrueBelow w) := by
  obtain ⟨u, eu, lu⟩ := lrem_nat n 5 (by omega)
  obtain ⟨v, ev, lv⟩ := lrem_nat more 30 (by omega)
  have HPn : ∀ W, Calls Tryd.prog 13 #[.int .i64 n, .int .i64 5] W fun e w' => e = .returned (.int .i64 (u : Int)) ∧ W = w' := fun W => by have := place_any n 5 W (by omega) (by omega); rw [eu] at this; exact this
  have HPm : ∀ W, Calls Tryd.prog 13 #[.int .i64 more, .int .i64 30] W fun e w' => e = .returned (.int .i64 (v : Int)) ∧ W = w' := fun W => by have := place_any more 30 W (by omega) (by omega); rw [ev] at this; exact this
  have hsz : (⟨(bigL (2 + v) (7998 + u)).toArray⟩ : ByteArray).size ≤ 1000000000 := by
    show (bigL (2 + v) (7998 + u)).length ≤ _
    simp [bigL]; omega
  by_cases h8 : 8000 < 7998 + u
  · exact lb_walk n more w u v (7998 + u) (2 + v) 0 3 (by omega) (by omega) rfl rfl HPn HPm (fun W => lex_len (s := ⟨(bigL (2 + v) (7998 + u)).toArray⟩) (ts := []) (lex_bigger _ _ h8) W hsz) (by rw [if_pos h8]; exact ⟨rfl, rfl⟩)
  · obtain ⟨ts, h1, h2⟩ := lex_big (2 + v) (7998 + u) (by omega) (by omega)
    have hA := fun W => lex_len (s := ⟨(bigL (2 + v) (7998 + u)).toArray⟩) (ts := ts) h1 W hsz
    rw [h2] at hA
    exact lb_walk n more w u v (7998 + u) (2 + v) _ 0 (by omega) (by omega) rfl rfl HPn HPm hA (by rw [if_neg h8]; exact ⟨rfl, rfl⟩)

end Go.Proofs.YtakmkhkbeabgcaaDoor
