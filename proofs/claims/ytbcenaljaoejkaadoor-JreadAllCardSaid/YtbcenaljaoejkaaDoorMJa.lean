/-
  jread: what it reads of a few texts.
-/
import Derived.Test.YtbcenaljaoejkaaDoorMJr12
import Derived.Test.YtbcenaljaoejkaaDoorNumForms
namespace Go.Proofs.YtbcenaljaoejkaaDoor
open Go.RowKit

theorem val_a : Lib.validD [34, 97, 34] = true := by
  rw [Lib.validD_cons _ _ (by decide), Lib.validD_cons _ _ (by decide), Lib.validD_cons _ _ (by decide)]
  rfl
theorem unq_a : unqP [34, 97, 34] = some [97] := by
  rw [unqP_yes _ ⟨by decide, rfl, rfl, val_a⟩]
  rfl
theorem qt_a (r : List UInt8) : qt (34 :: 97 :: 34 :: r) = some ([97], r) := by
  have h1 : qLen (List.drop 1 (34 :: 97 :: 34 :: r)) = 1 := by
    show qLen (97 :: 34 :: r) = 1
    rw [qLen_cons, qLen_cons]; rfl
  unfold qt
  rw [h1, if_pos (by simp)]
  show (unqP [34, 97, 34]).map _ = _
  rw [unq_a]
  rfl
theorem read_a1 : readP [32, 91, 49, 32, 44, 32, 34, 97, 34, 93, 32] = (some (.mk 7 e0 [] [.mk 3 (ofL [49]) [] [], .mk 5 (ofL [97]) [] []]), 0) := by
  kernel_rfl
theorem read_a2 : readP [91, 49, 44, 93] = (none, 2) := by kernel_rfl

/-- A sign that a number may have. -/
def isNS (b : UInt8) : Prop := numSigns.data.toList.contains b = true
theorem nd_app {s t : List UInt8} (hs : ∀ b ∈ s, isNS b) (ht : ∀ b, t.head? = some b → ¬ isNS b) : nd (s ++ t) = t := by
  unfold nd Lib.trimLeftS
  induction s with
  | nil =>
    cases t with
    | nil => rfl
    | cons b t =>
      rw [List.nil_append, List.dropWhile_cons, if_neg (show ¬ numSigns.data.toList.contains b = true from ht b rfl)]
  | cons b s ih =>
    rw [List.cons_append, List.dropWhile_cons, if_pos (show numSigns.data.toList.contains b = true from hs b (by simp))]
    exact ih fun c hc => hs c (by simp [hc])
theorem nt_app {s t : List UInt8} (hs : ∀ b ∈ s, isNS b) (ht : ∀ b, t.head? = some b → ¬ isNS b) : nt (s ++ t) = s := by
  unfold nt
  rw [nd_app hs ht, List.length_append, Nat.add_sub_cancel, List.take_left]

theorem ns_ne {b : UInt8} (h : isNS b) : blankU b = false ∧ b ≠ 91 ∧ b ≠ 123 ∧ b ≠ 34 ∧ b ≠ 110 ∧ b ≠ 116 ∧ b ≠ 102 ∧ b ≠ 93 := by
  have h' : b ∈ ([43, 45, 46, 48, 49, 50, 51, 52, 53, 54, 55, 56, 57, 101, 69] : List UInt8) := List.contains_iff_mem.1 h
  simp only [List.mem_cons, List.not_mem_nil, or_false] at h'
  rcases h' with rfl | rfl | rfl | rfl | rfl | rfl | rfl | rfl | rfl | rfl | rfl | rfl | rfl | rfl | rfl <;> decide

/-- A number, and what stands behind it. -/
theorem pv_num (f dep : Nat) (d t : Bool) {b : UInt8} {s r : List UInt8} (hs : ∀ c ∈ b :: s, isNS c) (hr : ∀ c, r.head? = some c → ¬ isNS c) :
    pv (f + 1) dep d t (b :: (s ++ r)) = if numOk (b :: s) then some (.mk (if numWhole (b :: s) then 3 else 4) (ofL (b :: s)) [] [], r, d || deepB dep, t) else none := by
  obtain ⟨h0, h1, h2, h3, h4, h5, h6, _⟩ := ns_ne (hs b (by simp))
  have e : sk (b :: (s ++ r)) = b :: (s ++ r) := by rw [sk_cons, h0]; rfl
  have hh : hd (b :: (s ++ r)) = b := rfl
  have en : nd (b :: (s ++ r)) = r := nd_app (s := b :: s) hs hr
  have et : nt (b :: (s ++ r)) = b :: s := nt_app (s := b :: s) hs hr
  rw [pv, e, hh, if_neg h1, if_neg h2, if_neg h3, if_neg h4, if_neg h5, if_neg h6, numP, en, et]

/-- A list of one value. -/
theorem read_one {s : List UInt8} {x : JV} (hl : s.length ≤ 3000) (h93 : hd (sk (s ++ [93])) ≠ 93) (h : ∀ n, s.length < n → pv n 2 false false (s ++ [93]) = some (x, [93], false, false)) : readP (91 :: (s ++ [93])) = (some (.mk 7 e0 [] [x]), 0) := by
  have hlen : (91 :: (s ++ [93])).length = s.length + 2 := by simp
  unfold readP
  rw [if_neg (by omega), hlen]
  have e : sk (91 :: (s ++ [93])) = 91 :: (s ++ [93]) := rfl
  rw [pv, e, show hd (91 :: (s ++ [93])) = 91 from rfl, if_pos rfl, show List.drop 1 (91 :: (s ++ [93])) = s ++ [93] from rfl, listP, if_neg h93, show (false || deepB 1) = false from rfl, listGo, h (s.length + 1 + 1) (by omega)]
  rfl
theorem read_none {s : List UInt8} (hl : s.length ≤ 3000) (h93 : hd (sk (s ++ [93])) ≠ 93) (h : ∀ n, s.length < n → pv n 2 false false (s ++ [93]) = none) : readP (91 :: (s ++ [93])) = (none, 2) := by
  have hlen : (91 :: (s ++ [93])).length = s.length + 2 := by simp
  unfold readP
  rw [if_neg (by omega), hlen]
  have e : sk (91 :: (s ++ [93])) = 91 :: (s ++ [93]) := rfl
  rw [pv, e, show hd (91 :: (s ++ [93])) = 91 from rfl, if_pos rfl, show List.drop 1 (91 :: (s ++ [93])) = s ++ [93] from rfl, listP, if_neg h93, show (false || deepB 1) = false from rfl, listGo, h (s.length + 1 + 1) (by omega)]

/-- A list of one number. -/
theorem read_num {s : List UInt8} (hne : s ≠ []) (hs : ∀ c ∈ s, isNS c) (hl : s.length ≤ 3000) : readP (91 :: (s ++ [93])) = if numOk s then (some (.mk 7 e0 [] [.mk (if numWhole s then 3 else 4) (ofL s) [] []]), 0) else (none, 2) := by
  cases s with
  | nil => exact absurd rfl hne
  | cons b s =>
    obtain ⟨h0, _, _, _, _, _, _, h93⟩ := ns_ne (hs b (by simp))
    have hr : ∀ c, ([93] : List UInt8).head? = some c → ¬ isNS c := fun c hc => by
      simp at hc
      subst hc
      unfold isNS
      decide
    have hh : hd (sk (b :: s ++ [93])) ≠ 93 := by
      rw [List.cons_append, sk_cons, h0]
      exact h93
    have hp : ∀ n, (b :: s).length < n → pv n 2 false false (b :: s ++ [93]) = if numOk (b :: s) then some (.mk (if numWhole (b :: s) then 3 else 4) (ofL (b :: s)) [] [], [93], false, false) else none := fun n hn => by
      obtain ⟨m, rfl⟩ : ∃ m, n = m + 1 := ⟨n - 1, by omega⟩
      exact pv_num m 2 false false hs hr
    cases ho : numOk (b :: s) with
    | true =>
      rw [if_pos rfl]
      exact read_one hl hh fun n hn => by rw [hp n hn, ho]; rfl
    | false =>
      rw [if_neg (by decide)]
      exact read_none hl hh fun n hn => by rw [hp n hn, ho]; rfl

theorem form5 {sg x z : List UInt8} (hs : isSgn sg) (hx : IsNat x) (hz : IsNat z) (hl : (sg ++ (x ++ 101 :: 45 :: z)).length ≤ 40) : numOk (sg ++ (x ++ 101 :: 45 :: z)) = true ∧ numWhole (sg ++ (x ++ 101 :: 45 :: z)) = false := by
  have w := numW_app sg x (101 :: 45 :: z) hs hx (fun c hc => by simp at hc; subst hc; decide)
  have f : numF (sg ++ (x ++ 101 :: 45 :: z)) = (101 :: 45 :: z, true) := by unfold numF; rw [w]; exact fr_no 101 _ (by decide)
  have e : numE (sg ++ (x ++ 101 :: 45 :: z)) = ([], true) := by unfold numE; rw [f]; exact (ex_yes 101 (45 :: z) (by decide)).trans (show cutDigitsP z = _ from cutD_all z hz.dig hz.ne)
  exact ⟨numOk_of hl (by rw [w]) (by rw [f]) e, by unfold numWhole; rw [w]; simp⟩

theorem dig_ns {b : UInt8} (h : digU b = true) : isNS b := by
  have hb : digitsS.data.toList.contains b = true := by rw [digits_has]; exact h
  have h' : b ∈ ([48, 49, 50, 51, 52, 53, 54, 55, 56, 57] : List UInt8) := List.contains_iff_mem.1 hb
  simp only [List.mem_cons, List.not_mem_nil, or_false] at h'
  unfold isNS
  rcases h' with rfl | rfl | rfl | rfl | rfl | rfl | rfl | rfl | rfl | rfl <;> decide

/-- A slice of values in new blocks: its one element. -/
theorem rd_one {w : World} {D : Nat → Prop} {n : Nat} {k : Int} {s : ByteArray} {x : JV} {v : Value} (h : RdD w D n (.mk k s [] [x]) v) :
    ∃ an cn b off cp, v = .agg #[.int .i64 k, .string s, .slice an 0 cn, .slice (some ⟨b, off, none⟩) 1 cp] ∧ 1 ≤ cp ∧ D b ∧ w.cell? ⟨b, off, none⟩ = some (.int .i64 x.k) ∧ w.cell? ⟨b, off + 1, none⟩ = some (.string x.s) := by
  match n, h with
  | n + 1, ⟨an, cn, ap, cp, e, hz, hs, hr⟩ =>
    obtain ⟨b, off, ea, hb, hc⟩ := hr (by show 0 < 1; omega)
    obtain ⟨c0, c1, c2, c3, h4, hR⟩ := hc 0 x rfl
    obtain ⟨an', cn', ap', cp', ev⟩ := hR.shape
    injection ev with ev
    have ev' : [c0, c1, c2, c3] = _ := congrArg Array.toList ev
    simp only [List.cons.injEq, and_true] at ev'
    obtain ⟨rfl, rfl, rfl, rfl⟩ := ev'
    subst ea
    refine ⟨an, cn, b, off, cp, e, hz.2.2.2.2, hb, ?_, ?_⟩
    · have := h4.1; simpa using this
    · have := h4.2.1; simpa using this
theorem rd_two {w : World} {D : Nat → Prop} {n : Nat} {k : Int} {s : ByteArray} {x y : JV} {v : Value} (h : RdD w D n (.mk k s [] [x, y]) v) :
    ∃ an cn b off cp, v = .agg #[.int .i64 k, .string s, .slice an 0 cn, .slice (some ⟨b, off, none⟩) 2 cp] ∧ 2 ≤ cp ∧ D b ∧ w.cell? ⟨b, off + 4 + 1, none⟩ = some (.string y.s) := by
  match n, h with
  | n + 1, ⟨an, cn, ap, cp, e, hz, hs, hr⟩ =>
    obtain ⟨b, off, ea, hb, hc⟩ := hr (by show 0 < 2; omega)
    obtain ⟨c0, c1, c2, c3, h4, hR⟩ := hc 1 y rfl
    obtain ⟨an', cn', ap', cp', ev⟩ := hR.shape
    injection ev with ev
    have ev' : [c0, c1, c2, c3] = _ := congrArg Array.toList ev
    simp only [List.cons.injEq, and_true] at ev'
    obtain ⟨rfl, rfl, rfl, rfl⟩ := ev'
    subst ea
    refine ⟨an, cn, b, off, cp, e, hz.2.2.2.2, hb, ?_⟩
    have := h4.2.1; simpa using this

/-- What Read answers where it is known. -/
theorem read_val {s : ByteArray} {x : JV} (h : readP s.data.toList = (some x, 0)) (w : World) : Calls Tryd.prog 8 #[.string s] w fun e w' => Below w.heap.size w w' ∧ ∃ v, e = .returned (.tuple #[v, .int .i64 0]) ∧ RdD w' (fun b => w.heap.size ≤ b ∧ b < w'.heap.size) (s.size + 1) x v := by
  have := read_any s w
  rw [h] at this
  exact this
theorem read_err {s : ByteArray} {c : Nat} (h : readP s.data.toList = (none, c)) (w : World) : Calls Tryd.prog 8 #[.string s] w fun e w' => Below w.heap.size w w' ∧ e = .returned (.tuple #[.agg #[.int .i64 0, .string ⟨#[]⟩, .slice none 0 0, .slice none 0 0], .int .i64 c]) := by
  have := read_any s w
  rw [h] at this
  refine this.mono ?_
  rintro e w' ⟨hb, v, rfl, rfl⟩
  exact ⟨hb, rfl⟩

set_option maxHeartbeats 2000000 in
set_option maxRecDepth 100000 in
theorem awake_true (w : World) : Calls Tryd.prog 7 #[] w fun e w' => e = .returned (.bool true) ∧ Below w.heap.size w w' := by
  go_enter Tryd.func7, Tryd.ntmps7
  go_wp2_with fail
  refine (read_val (s := ⟨#[32, 91, 49, 32, 44, 32, 34, 97, 34, 93, 32]⟩) read_a1 _).mono ?_
  rintro e w1 ⟨b1, v, rfl, hR⟩
  obtain ⟨an, cn, b, off, cp, rfl, hcp, hD, c1⟩ := rd_two hR
  have hlt := hD.2
  clear hR
  go_wp2_with fail
  refine (read_err (s := ⟨#[91, 49, 44, 93]⟩) read_a2 _).mono ?_
  rintro e w2 ⟨b2, rfl⟩
  have hz2 : w1.heap.size + 1 ≤ w2.heap.size := by have := b2.size; simpa using this
  have k0 : w2.cell? ⟨w1.heap.size, 0, none⟩ = some (.int .i64 7) := (b2.cell (p := ⟨w1.heap.size, 0, none⟩) (by simp)).trans (by go_simp)
  have k3 : w2.cell? ⟨w1.heap.size, 3, none⟩ = some (.slice (some ⟨b, off, none⟩) 2 cp) := (b2.cell (p := ⟨w1.heap.size, 3, none⟩) (by simp)).trans (by go_simp)
  have g1 : w2.cell? ⟨b, off + 4 + 1, none⟩ = some (.string ⟨#[97]⟩) := (b2.cell (p := ⟨b, off + 4 + 1, none⟩) (by simp; omega)).trans ((World.cell?_of_block (a := ⟨b, off + 4 + 1, none⟩) (Below.heap_alloc _ _ b hlt)).trans c1)
  have hbw : Below w.heap.size w w2 := (b1.alloc b1.size _).trans (b2.mono (by simp; have := b1.size; omega))
  have l1 : w1.heap.size < w2.heap.size := by omega
  have l2 : b < w2.heap.size := by omega
  clear c1 b1 b2 hz2
  go_wp2_with fail
  go_ret
  exact ⟨rfl, hbw.alloc hbw.size _⟩

end Go.Proofs.YtbcenaljaoejkaaDoor
