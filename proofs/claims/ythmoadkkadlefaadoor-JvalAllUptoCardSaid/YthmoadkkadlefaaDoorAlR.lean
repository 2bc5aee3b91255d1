/-
  JvalAll, bounded: what the arguments read as: values as trees whose texts are short.
-/
import Derived.Test.YthmoadkkadlefaaDoorRows
import Derived.Test.YthmoadkkadlefaaDoorText2
import Derived.Test.YthmoadkkadlefaaDoorCopy2
import Derived.Deep.Slices
import Derived.OpenShut
namespace Go.Proofs.YthmoadkkadlefaaDoor
open Go.ChangeShapes Go.WideShapes Go.RowKit

theorem bulk_one {H : Type} (d : DataW H) : 1 ≤ Rows.uptoBulk d := by
  cases d with
  | lit l => cases l <;> simp [Rows.uptoBulk]
  | nil => simp [Rows.uptoBulk]
  | ptr d => simp [Rows.uptoBulk]
  | slice elems spare => simp [Rows.uptoBulk]
  | agg parts => simp [Rows.uptoBulk]
  | iface t d => simp [Rows.uptoBulk]
  | map entries => simp [Rows.uptoBulk]
  | held h => simp [Rows.uptoBulk]
theorem bulk_mem {H : Type} {d : DataW H} : ∀ {l : List (DataW H)}, d ∈ l → Rows.uptoBulk d ≤ Rows.uptoBulkAll l
  | [], h => by cases h
  | x :: r, h => by
    simp only [Rows.uptoBulkAll]
    rcases List.mem_cons.1 h with e | e
    · subst e; omega
    · have := bulk_mem e; omega
theorem bulk_len {H : Type} : ∀ (l : List (DataW H)), l.length ≤ Rows.uptoBulkAll l
  | [] => Nat.zero_le _
  | x :: r => by have h1 := bulk_one x; have h2 := bulk_len r; simp only [Rows.uptoBulkAll, List.length_cons]; omega

/-- How long a list of parts is at most. -/
theorem pts_len (f : JV → List UInt8) (ob : Bool) : ∀ (ps : List JV) (ns : List ByteArray) (fst : Bool), (pts f ob fst ns ps).length ≤ (ps.map fun p => (f p).length + 4).sum + 6 * (ns.map fun n => n.size).sum
  | [], _, _ => Nat.zero_le _
  | p :: ps, ns, fst => by
    have h1 := pts_len f ob ps ns.tail false
    have e4 : (if fst then ([] : List UInt8) else [44]).length ≤ 1 := by cases fst <;> decide
    have e5 : (if ob then quoteB (vbl (ns.headD ⟨#[]⟩)) ++ [58] else []).length ≤ 6 * (ns.headD ⟨#[]⟩).size + 3 := by
      cases ob
      · exact Nat.zero_le _
      · show (quoteB _ ++ [58]).length ≤ _
        have h2 := quoteIn_len (vbl (ns.headD ⟨#[]⟩))
        have h3 : (vbl (ns.headD ⟨#[]⟩)).length = (ns.headD ⟨#[]⟩).size := rfl
        rw [List.length_append]
        unfold quoteB
        split
        · simp only [List.length_cons, List.length_append, List.length_nil]; omega
        · simp
    have e6 : (ns.map fun n => n.size).sum = (ns.headD ⟨#[]⟩).size + (ns.tail.map fun n => n.size).sum := by
      cases ns with
      | nil => rfl
      | cons a r => simp
    unfold pts
    simp only [List.length_append, List.map_cons, List.sum_cons]
    omega

section
variable {H : Type} {enc : TypeId × Value → H} {W : World} {base : Nat} {sp : Nat → Bool} {held : Bool}

theorem plain_addr {a : Addr} {v : Value} (h : W.cell? a = some v) : ∃ b off, a = ⟨b, off, none⟩ := by
  obtain ⟨b, off, spot⟩ := a
  have hspot : spot = none := by simpa using World.cell?_spot h
  subst hspot
  exact ⟨b, off, rfl⟩

theorem strs_read {fuel : Nat} {cs : List Value} {d : DataW H} {p : List MemPlace} (h : DataW.trod enc Tryd.prog W base sp held fuel 22 cs = some (d, p)) (hb : Rows.uptoBulk d ≤ 1048576) :
    ∃ (a : Option Addr) (cap : Nat) (ns : List ByteArray), cs = [.slice a ns.length cap] ∧ ns.length ≤ cap ∧ ns.length ≤ 1048576 ∧ Strs W W.heap.size a ns ∧ (ns.map fun n => n.size).sum + ns.length + 1 ≤ Rows.uptoBulk d := by
  rcases DataW.trod_slice Tryd.underlying22 h with ⟨rfl, e⟩ | ⟨a, len, cap, elems, rest, n, _, rfl, e, _, hl, hm, hlen, hel, _⟩
  · injection e with e1 _
    subst e1
    exact ⟨none, 0, [], rfl, Nat.le_refl _, Nat.zero_le _, fun h => absurd h (Nat.not_lt_zero _), by simp [Rows.uptoBulk]⟩
  · injection e with e1 _
    subst e1
    have hc1 : Tryd.prog.cellsOf 9 = 1 := by kernel_rfl
    rw [hc1] at hel
    obtain ⟨f, hf⟩ := Go.Deep.choose_lt (α := ByteArray) (n := len) (p := fun i s => W.cell? (a.add i) = some (.string s) ∧ elems[i]? = some (.lit (.string s.data.toList), [])) (fun i hi => by
      have h1 := hel i hi
      rw [List.getElem?_eq_getElem (by omega)] at h1
      obtain ⟨cs', h2, h3⟩ := Option.bind_eq_some_iff.1 h1
      obtain ⟨s, rfl, h4, _⟩ := DataW.trod_string Tryd.underlying9 h3
      obtain ⟨_, _, h5⟩ := World.cells?_some h2
      have h6 := h5 0 (by omega)
      rw [Nat.mul_one] at h6
      refine ⟨s, ?_, by rw [List.getElem?_eq_getElem (by omega), h4]⟩
      have : (a.add i).add 0 = a.add i := by rw [Go.Deep.add_add]; rfl
      rw [this] at h6
      exact h6)
    have hel2 : elems = (List.range len).map fun i => ((.lit (.string (f i).data.toList) : DataW H), ([] : List MemPlace)) := by
      apply List.ext_getElem?
      intro i
      by_cases hi : i < len
      · rw [(hf i hi).2]; simp [hi]
      · rw [List.getElem?_eq_none (by omega)]; simp [hi]
    have hbk : ∀ (l : List Nat), ((l.map f).map fun n => n.size).sum + (l.map f).length ≤ Rows.uptoBulkAll (l.map fun i => (.lit (.string (f i).data.toList) : DataW H)) := by
      intro l
      induction l with
      | nil => exact Nat.zero_le _
      | cons i l ih =>
        simp only [List.map_cons, List.sum_cons, List.length_cons, Rows.uptoBulkAll, Rows.uptoBulk]
        have : (f i).data.toList.length = (f i).size := rfl
        omega
    have hb1 := hbk (List.range len)
    have hel3 : elems.map (·.1) = (List.range len).map fun i => (.lit (.string (f i).data.toList) : DataW H) := by rw [hel2, List.map_map]; rfl
    have hb2 : Rows.uptoBulkAll ((List.range len).map fun i => (.lit (.string (f i).data.toList) : DataW H)) + 1 ≤ Rows.uptoBulk (.slice (elems.map (·.1)) (rest.map (·.1)) : DataW H) := by rw [hel3]; simp only [Rows.uptoBulk]; omega
    have hb3 : ((List.range len).map f).length = len := by simp
    refine ⟨some a, cap, (List.range len).map f, by rw [hb3], by rw [hb3]; exact hl, ?_, fun hp => ?_, ?_⟩
    · have := Nat.le_trans hb2 hb
      omega
    · rw [hb3] at hp
      obtain ⟨b, off, rfl⟩ : ∃ b off, a = ⟨b, off, none⟩ := by
        have h0 := (hf 0 hp).1
        exact plain_addr (a := a) (by simpa [Addr.add] using h0)
      refine ⟨b, off, rfl, ?_, fun j x hx => ?_⟩
      · have h0 := World.block_lt_of_cell? W _ (hf 0 hp).1
        simpa [Addr.add] using h0
      · obtain ⟨hj, rfl⟩ : j < len ∧ f j = x := by
          by_cases hj : j < len
          · simp [hj] at hx; exact ⟨hj, hx⟩
          · simp [hj] at hx
        refine ⟨?_, by have := (hf j hj).1; rwa [add_plain] at this⟩
        have hmem : (.lit (.string (f j).data.toList) : DataW H) ∈ (List.range len).map fun i => (.lit (.string (f i).data.toList) : DataW H) := List.mem_map.2 ⟨j, List.mem_range.2 hj, rfl⟩
        have h7 := bulk_mem hmem
        rw [show Rows.uptoBulk (.lit (.string (f j).data.toList) : DataW H) = (f j).size + 1 by simp only [Rows.uptoBulk]; rfl] at h7
        have h8 : Rows.uptoBulkAll ((List.range len).map fun i => (.lit (.string (f i).data.toList) : DataW H)) + 1 ≤ 1048576 := Nat.le_trans hb2 hb
        omega
    · refine Nat.le_trans ?_ hb2
      exact Nat.succ_le_succ hb1

theorem Rd.upto {w : World} {B n m : Nat} {x : JV} {v : Value} (h : Rd w B n x v) (hm : n ≤ m) : Rd w B m x v := by
  induction hm with
  | refl => exact h
  | step _ ih => exact ih.up

instance : Inhabited JV := ⟨.mk 0 ⟨#[]⟩ [] []⟩

set_option maxRecDepth 10000 in
theorem val_read : ∀ (fuel : Nat) (cs : List Value) (d : DataW H) (p : List MemPlace), DataW.trod enc Tryd.prog W base sp held fuel 25 cs = some (d, p) → Rows.uptoBulk d ≤ 1048576 →
    ∃ (x : JV) (c0 c1 c2 c3 : Value), cs = [c0, c1, c2, c3] ∧ Rd W W.heap.size (Rows.uptoBulk d / 4) x (.agg #[c0, c1, c2, c3]) ∧ (∀ q, (txt q x).length + 5 ≤ 10 * Rows.uptoBulk d) ∧ ∀ q, nodes q x ≤ Rows.uptoBulk d := by
  intro fuel
  induction fuel using Nat.strongRecOn with
  | ind fuel val_read =>
  intro cs d p h hb
  match fuel with
  | 0 => simp [DataW.trod] at h
  | fuel + 1 =>
    obtain ⟨xs, n, hn, e, hcl, hxl, hfs⟩ := DataW.trod_struct Tryd.underlying25 h
    obtain rfl : fuel = n := by omega
    injection e with e1 _
    subst e1
    have h4 : Tryd.prog.cellsOf 25 = 4 := by kernel_rfl
    rw [h4] at hcl
    obtain ⟨c0, c1, c2, c3, rfl⟩ : ∃ c0 c1 c2 c3, cs = [c0, c1, c2, c3] := by
      match cs, hcl with
      | [c0, c1, c2, c3], _ => exact ⟨c0, c1, c2, c3, rfl⟩
    obtain ⟨x0, x1, x2, x3, rfl⟩ : ∃ x0 x1 x2 x3, xs = [x0, x1, x2, x3] := by
      match xs, hxl with
      | [x0, x1, x2, x3], _ => exact ⟨x0, x1, x2, x3, rfl⟩
    have k1 : Tryd.prog.cellsOf 3 = 1 := by kernel_rfl
    have k2 : Tryd.prog.cellsOf 9 = 1 := by kernel_rfl
    have k3 : Tryd.prog.cellsOf 22 = 1 := by kernel_rfl
    have k4 : Tryd.prog.cellsOf 23 = 1 := by kernel_rfl
    have f0 : DataW.trod enc Tryd.prog W base sp held fuel 3 (([c0, c1, c2, c3].drop 0).take (Tryd.prog.cellsOf 3)) = some x0 := hfs 0 _ rfl
    rw [k1] at f0
    change DataW.trod enc Tryd.prog W base sp held fuel 3 [c0] = some x0 at f0
    have f1 : DataW.trod enc Tryd.prog W base sp held fuel 9 (([c0, c1, c2, c3].drop 1).take (Tryd.prog.cellsOf 9)) = some x1 := hfs 1 _ rfl
    rw [k2] at f1
    change DataW.trod enc Tryd.prog W base sp held fuel 9 [c1] = some x1 at f1
    have f2 : DataW.trod enc Tryd.prog W base sp held fuel 22 (([c0, c1, c2, c3].drop 2).take (Tryd.prog.cellsOf 22)) = some x2 := hfs 2 _ rfl
    rw [k3] at f2
    change DataW.trod enc Tryd.prog W base sp held fuel 22 [c2] = some x2 at f2
    have f3 : DataW.trod enc Tryd.prog W base sp held fuel 23 (([c0, c1, c2, c3].drop 3).take (Tryd.prog.cellsOf 23)) = some x3 := hfs 3 _ rfl
    rw [k4] at f3
    change DataW.trod enc Tryd.prog W base sp held fuel 23 [c3] = some x3 at f3
    obtain ⟨k, ek, rfl, _⟩ := DataW.trod_int Tryd.underlying3 f0
    obtain ⟨s, es, rfl, _⟩ := DataW.trod_string Tryd.underlying9 f1
    obtain ⟨d2, p2⟩ := x2
    obtain ⟨d3, p3⟩ := x3
    injection ek with ek _
    injection es with es _
    subst ek es
    have hbk : Rows.uptoBulk (.agg ([((.lit (.int .i64 k) : DataW H), ([] : List MemPlace)), (.lit (.string s.data.toList), []), (d2, p2), (d3, p3)].map (·.1)) : DataW H) = s.size + Rows.uptoBulk d2 + Rows.uptoBulk d3 + 3 := by
      simp only [List.map_cons, List.map_nil, Rows.uptoBulk, Rows.uptoBulkAll]
      have : s.data.toList.length = s.size := rfl
      omega
    rw [hbk] at hb ⊢
    obtain ⟨an, cn, ns, e2, hnc, hnl, hST, hns⟩ := strs_read f2 (by omega)
    injection e2 with e2 _
    subst e2
    obtain ⟨ap, cp, ps, e3, hpc, hpl, hRW, hps, hpn⟩ : ∃ (ap : Option Addr) (cp : Nat) (ps : List JV), c3 = .slice ap ps.length cp ∧ ps.length ≤ cp ∧ ps.length ≤ 1048576 ∧ Rows4 W W.heap.size (Rd W W.heap.size (Rows.uptoBulk d3 / 4)) ap ps ∧ (∀ q, (ps.map fun p => (txt q p).length + 4).sum ≤ 10 * (Rows.uptoBulk d3 - 1)) ∧ ∀ q, (ps.map (nodes q)).sum ≤ Rows.uptoBulk d3 - 1 := by
      rcases DataW.trod_slice Tryd.underlying23 f3 with ⟨e, e'⟩ | ⟨a, len, cap, elems, rest, m, hm, e, e', _, hl, _, hlen, hel, _⟩
      · injection e with e _
        injection e' with e' _
        subst e e'
        exact ⟨none, 0, [], rfl, Nat.le_refl _, Nat.zero_le _, fun h => absurd h (Nat.not_lt_zero _), fun q => Nat.zero_le _, fun q => Nat.zero_le _⟩
      · injection e with e _
        injection e' with e' _
        subst e e'
        rw [h4] at hel
        have hb3 : Rows.uptoBulkAll (elems.map (·.1)) + 1 ≤ Rows.uptoBulk (.slice (elems.map (·.1)) (rest.map (·.1)) : DataW H) := by simp only [Rows.uptoBulk]; omega
        have hD : elems.map (·.1) = (List.range len).map fun i => (elems.getD i ((.nil : DataW H), ([] : List MemPlace))).1 := by rw [Go.Deep.map_by_index elems (.nil, []) (·.1), hlen]
        obtain ⟨Y, hY⟩ := Go.Deep.choose_lt (α := JV) (n := len) (p := fun i y => ∃ b0 b1 b2 b3, W.cell? ((a.add (i * 4)).add 0) = some b0 ∧ W.cell? ((a.add (i * 4)).add 1) = some b1 ∧ W.cell? ((a.add (i * 4)).add 2) = some b2 ∧ W.cell? ((a.add (i * 4)).add 3) = some b3 ∧ Rd W W.heap.size (Rows.uptoBulk (.slice (elems.map (·.1)) (rest.map (·.1)) : DataW H) / 4) y (.agg #[b0, b1, b2, b3]) ∧ (∀ q, (txt q y).length + 5 ≤ 10 * Rows.uptoBulk (elems.getD i ((.nil : DataW H), ([] : List MemPlace))).1) ∧ ∀ q, nodes q y ≤ Rows.uptoBulk (elems.getD i ((.nil : DataW H), ([] : List MemPlace))).1) (fun i hi => by
          have h1 := hel i hi
          rw [List.getElem?_eq_getElem (by omega)] at h1
          obtain ⟨cs', h2, h3⟩ := Option.bind_eq_some_iff.1 h1
          have hg : elems.getD i ((.nil : DataW H), ([] : List MemPlace)) = elems[i]'(by omega) := by simp [List.getD, List.getElem?_eq_getElem (show i < elems.length by omega)]
          have hmem : (elems[i]'(by omega)).1 ∈ elems.map (·.1) := List.mem_map.2 ⟨_, List.getElem_mem _, rfl⟩
          have hbi := bulk_mem hmem
          obtain ⟨y, b0, b1, b2, b3, rfl, hR, ht, hnd⟩ := val_read m (by omega) cs' (elems[i]'(by omega)).1 (elems[i]'(by omega)).2 h3 (by omega)
          obtain ⟨_, _, h5⟩ := World.cells?_some h2
          exact ⟨y, b0, b1, b2, b3, h5 0 (by omega), h5 1 (by omega), h5 2 (by omega), h5 3 (by omega), hR.upto (Nat.div_le_div_right (by omega)), by rw [hg]; exact ht, by rw [hg]; exact hnd⟩)
        have hl2 : ((List.range len).map Y).length = len := by simp
        have hbl := bulk_len (elems.map (·.1))
        rw [List.length_map, hlen] at hbl
        refine ⟨some a, cap, (List.range len).map Y, by rw [hl2], by rw [hl2]; exact hl, by omega, fun hp => ?_, fun q => ?_, fun q => ?_⟩
        · rw [hl2] at hp
          obtain ⟨b, off, rfl⟩ : ∃ b off, a = ⟨b, off, none⟩ := by
            obtain ⟨b0, _, _, _, h0, _⟩ := hY 0 hp
            exact plain_addr (a := a) (by simpa [Addr.add] using h0)
          refine ⟨b, off, rfl, ?_, fun i x hx => ?_⟩
          · obtain ⟨b0, _, _, _, h0, _⟩ := hY 0 hp
            have h0 := World.block_lt_of_cell? W _ h0
            simpa [Addr.add] using h0
          · obtain ⟨hi, rfl⟩ : i < len ∧ Y i = x := by
              by_cases hi : i < len
              · simp [hi] at hx; exact ⟨hi, hx⟩
              · simp [hi] at hx
            obtain ⟨b0, b1, b2, b3, g0, g1, g2, g3, hR, _⟩ := hY i hi
            rw [add_plain, add_plain] at g0 g1 g2 g3
            exact ⟨b0, b1, b2, b3, ⟨g0, g1, g2, g3⟩, hR⟩
        · have hs : ∀ l : List Nat, (∀ i ∈ l, i < len) → ((l.map Y).map fun p => (txt q p).length + 4).sum ≤ 10 * Rows.uptoBulkAll (l.map fun i => (elems.getD i ((.nil : DataW H), ([] : List MemPlace))).1) := by
            intro l
            induction l with
            | nil => intro _; exact Nat.zero_le _
            | cons i l ih =>
              intro hl
              obtain ⟨_, _, _, _, _, _, _, _, _, ht, _⟩ := hY i (hl i (by simp))
              have h1 := ih fun j hj => hl j (by simp [hj])
              have h2 := ht q
              simp only [List.map_cons, List.sum_cons, Rows.uptoBulkAll]
              omega
          have h1 := hs (List.range len) fun i hi => List.mem_range.1 hi
          rw [← hD] at h1
          omega
        · have hs : ∀ l : List Nat, (∀ i ∈ l, i < len) → ((l.map Y).map (nodes q)).sum ≤ Rows.uptoBulkAll (l.map fun i => (elems.getD i ((.nil : DataW H), ([] : List MemPlace))).1) := by
            intro l
            induction l with
            | nil => intro _; exact Nat.zero_le _
            | cons i l ih =>
              intro hl
              obtain ⟨_, _, _, _, _, _, _, _, _, _, ht⟩ := hY i (hl i (by simp))
              have h1 := ih fun j hj => hl j (by simp [hj])
              have h2 := ht q
              simp only [List.map_cons, List.sum_cons, Rows.uptoBulkAll]
              omega
          have h1 := hs (List.range len) fun i hi => List.mem_range.1 hi
          rw [← hD] at h1
          omega
    subst e3
    have hsz : s.size ≤ 1048576 := by omega
    have hd2 := bulk_one d2
    have hd3 := bulk_one d3
    have hR : Rd W W.heap.size (Rows.uptoBulk d3 / 4 + 1) (.mk k s ns ps) (.agg #[.int .i64 k, .string s, .slice an ns.length cn, .slice ap ps.length cp]) := ⟨an, cn, ap, cp, rfl, ⟨by show s.size ≤ _; omega, by show ns.length ≤ _; omega, by show ps.length ≤ _; omega, hnc, hpc⟩, hST, hRW⟩
    refine ⟨.mk k s ns ps, _, _, _, _, rfl, hR.upto (by omega), fun q => ?_, fun q => ?_⟩
    rotate_left
    · cases q with
      | zero => exact Nat.zero_le _
      | succ q =>
        have := hpn q
        show 1 + (ps.map (nodes q)).sum ≤ _
        omega
    have hsl : (vbl s).length = s.size := rfl
    cases q with
    | zero => show 0 + 5 ≤ _; omega
    | succ q =>
      have hp7 := pts_len (txt q) false ps ns true
      have hp8 := pts_len (txt q) true ps ns true
      have hq := hps q
      by_cases h1 : k = 1
      · rw [txt_null (x := .mk k s ns ps) h1]; show 4 + 5 ≤ _; omega
      by_cases h5 : k = 5
      · rw [txt_str (x := .mk k s ns ps) h5]
        show (quoteB (vbl s)).length + 5 ≤ _
        have := quoteIn_len (vbl s)
        unfold quoteB
        split
        · simp only [List.length_cons, List.length_append, List.length_nil]; omega
        · simp only [List.length_nil]; omega
      by_cases h7 : k = 7
      · rw [txt_list (x := .mk k s ns ps) h7]
        simp only [List.length_append, List.length_singleton]
        show 1 + ((pts (txt q) false true ns ps).length + 1) + 5 ≤ _
        omega
      by_cases h8 : k = 8
      · rw [txt_obj (x := .mk k s ns ps) h8]
        simp only [List.length_append, List.length_singleton]
        show 1 + ((pts (txt q) true true ns ps).length + 1) + 5 ≤ _
        omega
      rw [txt_leaf (x := .mk k s ns ps) h1 h5 h7 h8]
      show (vbl s).length + 5 ≤ _
      omega

end
end Go.Proofs.YthmoadkkadlefaaDoor
