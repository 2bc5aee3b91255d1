/-
  Documents, from their tokens: the texts of three laws of layer 6, read by the plain function.
-/
import Derived.Test.YtibkncgfdhflgaaGreatDoorMDm
import Derived.Test.YtibkncgfdhflgaaGreatDoorMDe4
import Derived.Test.YtibkncgfdhflgaaGreatDoorMDaw
import Derived.Test.YtibkncgfdhflgaaGreatDoorPlace
import Derived.Test.YtibkncgfdhflgaaGreatDoorMNumForms
namespace Go.Proofs.YtibkncgfdhflgaaGreatDoor
open Go.RowKit

/-- The text of an operation with each of its parts, or without, and k fragments. -/
def partsFr : Nat → List UInt8
  | 0 => []
  | k + 1 => partsFr k ++ ([102, 114, 97, 103, 109, 101, 110, 116, 32, 70] ++ ((48 + UInt8.ofNat k) :: [32, 111, 110, 32, 84, 64, 100, 123, 97, 125]))
def partsS (name vars dirs mut_ : Bool) (k : Nat) : List UInt8 :=
  (if mut_ then mutS else queryS) ++ ((if name then [32, 78] else []) ++ ((if vars then [40, 36, 97, 58, 91, 73, 110, 116, 33, 93, 61, 91, 49, 93, 32, 36, 98, 58, 84, 41] else []) ++ ((if dirs then [64, 100, 40, 120, 58, 49, 41, 64, 101] else []) ++ ([123, 120, 58, 102, 40, 97, 58, 36, 97, 41, 123, 103, 125, 46, 46, 46, 70, 125] ++ partsFr k))))
def partsOp (name vars dirs mut_ : Bool) (o : OpT) : Bool :=
  (o.mut_ == mut_) && ((o.nm == [78]) == name) && (decide (o.vars.length = 2) == vars) && (decide (o.dirs.length = 2) == dirs) &&
  (match o.sels with
    | [x, y] => x.al == [120] && (x.nm == [102] && (decide (x.sels.length = 1) && y.k == 2))
    | _ => false) &&
  (match o.vars with
    | [v, u] => v.dflt.k == 7 && (v.ty.2 == [33, 93] && u.dflt.k == 0)
    | _ => !vars)
def partsOk (name vars dirs mut_ : Bool) (k : Nat) : Bool :=
  match parseP (partsS name vars dirs mut_ k) with
    | (⟨[o], fs⟩, 0, 0) => decide (fs.length = k) && partsOp name vars dirs mut_ o
    | _ => false
def bb : List Bool := [false, true]
theorem parts_all : (bb.all fun a => bb.all fun b => bb.all fun c => bb.all fun d => (List.range 5).all fun k => partsOk a b c d k) = true := by kernel_rfl

/-- A set of n fields a. -/
def manyS (n : Nat) : List UInt8 := 123 :: ((List.replicate n [97, 32]).flatten ++ [125])
def selA : SelT := .mk 1 [] [97] [] [] [] []
theorem sel_a (S : List Sk → PR (List SelT)) (t : Sk) (r : List Sk) (h : t = (1, [97]) ∨ t = (5, [125])) : selP S ((1, [97]) :: t :: r) = (selA, t :: r, 0) := by
  rcases h with rfl | rfl <;> rfl
theorem many_go (S : List Sk → PR (List SelT)) : ∀ (n f : Nat) (acc : List SelT), n < f → (acc ≠ [] ∨ 0 < n) →
    manyGo (selP S) 125 f (List.replicate n (1, [97]) ++ [(5, [125])]) acc = (acc ++ List.replicate n selA, [], 0)
  | 0, f + 1, acc, _, h => by
    have ha : acc.isEmpty = false := by
      cases acc with
      | nil => rcases h with h | h <;> simp at h
      | cons _ _ => rfl
    show manyGo (selP S) 125 (f + 1) [(5, [125])] acc = _
    unfold manyGo
    rw [ha, if_pos (by rfl), List.replicate_zero, List.append_nil]
    rfl
  | n + 1, f + 1, acc, hf, _ => by
    obtain ⟨t, r, e, ht⟩ : ∃ t r, List.replicate n ((1, [97]) : Sk) ++ [(5, [125])] = t :: r ∧ (t = (1, [97]) ∨ t = (5, [125])) := by
      cases n with
      | zero => exact ⟨_, _, rfl, .inr rfl⟩
      | succ n => exact ⟨_, _, rfl, .inl rfl⟩
    have hI := many_go S n f (acc ++ [selA]) (by omega) (.inl (by simp))
    rw [List.replicate_succ, List.cons_append]
    rw [e] at hI ⊢
    unfold manyGo
    rw [if_neg (by rw [show sg (hdK ((1, [97]) :: t :: r)) 125 = false from rfl, Bool.and_false]; decide), sel_a S t r ht]
    show manyGo (selP S) 125 f (t :: r) (acc ++ [selA]) = _
    rw [hI, List.append_assoc]
    rfl
theorem many_lex : ∀ (n a : Nat) (acc : List Tk), ∃ ts, ts.map strip = List.replicate n (1, [97]) ++ [(5, [125])] ∧ lxG a ((List.replicate n [97, 32]).flatten ++ [125]) acc = (acc ++ ts, 0, 0)
  | 0, a, acc => ⟨[⟨5, [125], a⟩], rfl, by
    show lxG a (125 :: []) acc = _
    rw [sign_go (by decide), lxG_nil]⟩
  | n + 1, a, acc => by
    obtain ⟨t1, e1, h1⟩ := name_lexes (l := [97]) (by decide) (32 :: ((List.replicate n [97, 32]).flatten ++ [125])) (fun c hc => by injection hc with hc; subst hc; decide) a acc
    obtain ⟨ts, e, h⟩ := many_lex n (a + [97].length + 1) (acc ++ t1)
    refine ⟨t1 ++ ts, by rw [List.map_append, e1, e]; rfl, ?_⟩
    rw [List.replicate_succ, List.flatten_cons]
    show lxG a ([97] ++ (32 :: ((List.replicate n [97, 32]).flatten ++ [125]))) acc = _
    rw [h1, lxG_blank _ _ _ _ (by decide)]
    exact h.trans (by rw [List.append_assoc])
theorem many_len (n : Nat) : (manyS n).length = 2 * n + 2 := by
  have : ∀ n : Nat, (List.replicate n ([97, 32] : List UInt8)).flatten.length = 2 * n := by
    intro n
    induction n with
    | zero => rfl
    | succ n ih => rw [List.replicate_succ, List.flatten_cons, List.length_append, ih]; simp; omega
  unfold manyS
  rw [List.length_cons, List.length_append, this]
  simp
/-- What is read of n fields. -/
theorem many_parse (n : Nat) (h0 : 0 < n) (hn : n ≤ 1900) : parseP (manyS n) = if n ≤ 598 then (⟨[⟨false, [], [], [], List.replicate n selA⟩], []⟩, 0, 0) else (docZ, 0, 3) := by
  have hl := many_len n
  obtain ⟨ts, e, h⟩ := many_lex n 1 [⟨5, [123], 0⟩]
  have hL : lexP (manyS n) = (⟨5, [123], 0⟩ :: ts, 0, 0) := by
    rw [lexP_G _ (by omega)]
    unfold manyS
    rw [sign_go (by decide)]
    exact h
  have ht : ts.length = n + 1 := by
    have := congrArg List.length e
    simpa using this
  unfold parseP
  rw [if_neg (by omega), hL, if_pos rfl]
  show parseT _ (⟨5, [123], 0⟩ :: ts) = _
  unfold parseT
  rw [List.length_cons, ht]
  by_cases hb : n ≤ 598
  · rw [if_neg (by omega), if_pos hb]
    have hm : List.map strip (⟨5, [123], 0⟩ :: ts) = (5, [123]) :: (List.replicate n (1, [97]) ++ [(5, [125])]) := by rw [List.map_cons, e]; rfl
    have hs : setP 12 ((5, [123]) :: (List.replicate n (1, [97]) ++ [(5, [125])])) = (List.replicate n selA, [], 0) := by
      unfold setP
      rw [if_pos (by rfl)]
      have := many_go (setP 11) n ((5, [123]) :: (List.replicate n (1, [97]) ++ [(5, [125])]) : List Sk).length [] (by simp; omega) (.inr h0)
      rw [List.nil_append] at this
      exact this
    have hd : docGo (n + 1 + 1 + 1) ((5, [123]) :: (List.replicate n (1, [97]) ++ [(5, [125])])) docZ = (⟨[⟨false, [], [], [], List.replicate n selA⟩], []⟩, [], 0) := by
      unfold docGo defP
      rw [if_pos (by rfl), hs]
      rfl
    rw [hm, hd]
    rfl
  · rw [if_pos (by omega), if_neg hb]
/-- A set of one field, with so many blanks. -/
def longS (n : Nat) : List UInt8 := 123 :: 97 :: (List.replicate n 32 ++ [125])
def longOk (k : Nat) : Bool :=
  match parseP (longS (3994 + k)) with
    | (⟨[_], []⟩, _, e) => e == 0 && decide (3997 + k ≤ 4000)
    | (⟨[], []⟩, _, e) => e == 3 && decide (4000 < 3997 + k)
    | _ => false
theorem long_all : ((List.range 6).all fun k => longOk k) = true := by kernel_rfl

end Go.Proofs.YtibkncgfdhflgaaGreatDoor

/-
  DocParts: its texts, read by the plain parser; what lies in memory then.
-/
namespace Go.Proofs.YtibkncgfdhflgaaGreatDoor
open Go.RowKit

def vA1 : VarT := ⟨[97], ([73, 110, 116], [33, 93]), .mk 7 ⟨#[]⟩ [] [.mk 3 ⟨#[49]⟩ [] []]⟩
def vA2 : VarT := ⟨[98], ([84], []), vz⟩
def dA1 : DirT := ([100], [([120], .mk 3 ⟨#[49]⟩ [] [])])
def dA2 : DirT := ([101], [])
def sA1 : SelT := .mk 1 [120] [102] [] [([97], .mk 9 ⟨#[97]⟩ [] [])] [] [.mk 1 [] [103] [] [] [] []]
def sA2 : SelT := .mk 2 [] [70] [] [] [] []
def opP (a b c d : Bool) : OpT := ⟨d, if a then [78] else [], if b then [vA1, vA2] else [], if c then [dA1, dA2] else [], [sA1, sA2]⟩
def pRest (a b c d : Bool) (k : Nat) : Bool :=
  let t := partsS a b c d k
  tokSmall (lexP t).1 && ((parseM t).2.1 == 0 && ((parseM t).2.2 == 0 && ((parseM t).1.frags.length == k && decide (t.length ≤ 300))))
theorem p_rest : (bb.all fun a => bb.all fun b => bb.all fun c => bb.all fun d => (List.range 5).all fun k => pRest a b c d k) = true := by kernel_rfl
theorem mem_bb (b : Bool) : b ∈ bb := by cases b <;> decide
theorem p_rest_at (a b c d : Bool) {k : Nat} (hk : k < 5) : pRest a b c d k = true := by
  have h1 := List.all_eq_true.1 p_rest a (mem_bb a)
  have h2 := List.all_eq_true.1 h1 b (mem_bb b)
  have h3 := List.all_eq_true.1 h2 c (mem_bb c)
  have h4 := List.all_eq_true.1 h3 d (mem_bb d)
  exact List.all_eq_true.1 h4 k (List.mem_range.2 hk)
theorem p_ops (a b c d : Bool) {k : Nat} (hk : k < 5) : (parseM (partsS a b c d k)).1.ops = [opP a b c d] := by
  obtain rfl | rfl | rfl | rfl | rfl : k = 0 ∨ k = 1 ∨ k = 2 ∨ k = 3 ∨ k = 4 := by omega
  all_goals (cases a <;> cases b <;> cases c <;> cases d <;> kernel_rfl)

theorem parts_facts {w : World} {D : Nat → Prop} {a b c d : Bool} {fs : List FragT} {vo vf : Value} (h : DocE w D ⟨[opP a b c d], fs⟩ (.agg #[vo, vf])) :
    ∃ g off cc a3 c3 va vc da dc sg so sc ya yc, (vo = .slice (some ⟨g, off, none⟩) 1 cc ∧ vf = .slice a3 fs.length c3 ∧ 1 ≤ cc ∧ 2 ≤ sc ∧ D g ∧ D sg) ∧
      (w.cell? ⟨g, off, none⟩ = some (.bool d) ∧ w.cell? ⟨g, off + 1, none⟩ = some (.string ⟨(if a then [78] else [] : List UInt8).toArray⟩) ∧ w.cell? ⟨g, off + 2, none⟩ = some (.slice va (if b then [vA1, vA2] else [] : List VarT).length vc) ∧
       w.cell? ⟨g, off + 3, none⟩ = some (.slice da (if c then [dA1, dA2] else [] : List DirT).length dc) ∧ w.cell? ⟨g, off + 4, none⟩ = some (.slice (some ⟨sg, so, none⟩) 2 sc)) ∧
      (w.cell? ⟨sg, so + 1, none⟩ = some (.string ⟨#[120]⟩) ∧ w.cell? ⟨sg, so + 2, none⟩ = some (.string ⟨#[102]⟩) ∧ w.cell? ⟨sg, so + 6, none⟩ = some (.slice ya 1 yc) ∧ w.cell? ⟨sg, so + 7, none⟩ = some (.int .i64 2)) ∧
      (b = true → ∃ vg vof, va = some ⟨vg, vof, none⟩ ∧ 2 ≤ vc ∧ D vg ∧ w.cell? ⟨vg, vof + 2, none⟩ = some (.string ⟨#[33, 93]⟩) ∧ w.cell? ⟨vg, vof + 3, none⟩ = some (.int .i64 7) ∧ w.cell? ⟨vg, vof + 10, none⟩ = some (.int .i64 0)) := by
  obtain ⟨vo', vf', e, ho, hf⟩ := h
  injection e with e
  have e' := congrArg Array.toList e
  simp at e'
  obtain ⟨rfl, rfl⟩ := e'
  obtain ⟨a3, c3, rfl⟩ := hf.shape
  obtain ⟨x, cc, rfl, -, hc, hr⟩ := ho
  obtain ⟨g, off, rfl, hg, hel⟩ := hr (show (0 : Nat) < 1 by decide)
  obtain ⟨cs, hl, hcs, hE⟩ := hel 0 (opP a b c d) rfl
  obtain ⟨_, vv, vd, vs, rfl, hv1, hd1, hs1⟩ := hE
  have k0 := hcs 0 _ rfl
  have k1 := hcs 1 _ rfl
  have k2 := hcs 2 _ rfl
  have k3 := hcs 3 _ rfl
  have k4 := hcs 4 _ rfl
  rw [Nat.zero_mul, Nat.add_zero] at k0 k1 k2 k3 k4
  obtain ⟨va, vc, rfl, -, hvc, hvr⟩ := hv1
  obtain ⟨da, dc, rfl⟩ := hd1.shape
  obtain ⟨sa, sc, rfl, -, hsc, hsr⟩ := hs1
  obtain ⟨sg, so, rfl, hsg, hsel⟩ := hsr (show (0 : Nat) < 2 by decide)
  obtain ⟨cs1, hl1, hcs1, hE1⟩ := hsel 0 sA1 rfl
  obtain ⟨cs2, hl2, hcs2, hE2⟩ := hsel 1 sA2 rfl
  obtain ⟨_, wa, wd, ws, rfl, _, _, hws⟩ := hE1
  obtain ⟨_, ua, ud, us, rfl, _⟩ := hE2
  obtain ⟨ya, yc, rfl⟩ := hws.shape
  have s1 := hcs1 1 _ rfl
  have s2 := hcs1 2 _ rfl
  have s6 := hcs1 6 _ rfl
  have t0 := hcs2 0 _ rfl
  rw [Nat.zero_mul, Nat.add_zero] at s1 s2 s6
  rw [Nat.one_mul, Nat.add_zero] at t0
  refine ⟨g, off, cc, a3, c3, va, vc, da, dc, sg, so, sc, ya, yc, ⟨rfl, rfl, hc, hsc, hg, hsg⟩, ⟨k0, k1, k2, k3, k4⟩, ⟨s1, s2, s6, t0⟩, fun hb => ?_⟩
  subst hb
  obtain ⟨vg, vof, rfl, hvg, hvel⟩ := hvr (show (0 : Nat) < 2 by decide)
  obtain ⟨cs3, hl3, hcs3, hE3⟩ := hvel 0 vA1 rfl
  obtain ⟨cs4, hl4, hcs4, hE4⟩ := hvel 1 vA2 rfl
  obtain ⟨_, x0, x1, x2, x3, rfl, hR3⟩ := hE3
  obtain ⟨_, z0, z1, z2, z3, rfl, hR4⟩ := hE4
  obtain ⟨_, _, _, _, q3⟩ := hR3.shape
  obtain ⟨_, _, _, _, q4⟩ := hR4.shape
  obtain ⟨rfl, -, -, -⟩ := agg4_inj q3
  obtain ⟨rfl, -, -, -⟩ := agg4_inj q4
  have v2 := hcs3 2 _ rfl
  have v3 := hcs3 3 _ rfl
  have u3 := hcs4 3 _ rfl
  rw [Nat.zero_mul, Nat.add_zero] at v2 v3
  rw [Nat.one_mul, Nat.add_assoc] at u3
  exact ⟨vg, vof, rfl, hvc, hvg, v2, v3, u3⟩

end Go.Proofs.YtibkncgfdhflgaaGreatDoor

/-
  DocParts: what its walks share.
-/
namespace Go.Proofs.YtibkncgfdhflgaaGreatDoor
open Go.RowKit

theorem prem_nat (v n : Int) (hn : 0 < n) : ∃ u : Nat, v % n = (u : Int) ∧ (u : Int) < n := ⟨(v % n).toNat, by have := Int.emod_nonneg v (show n ≠ 0 by omega); omega, by have := Int.emod_lt_of_pos v hn; have := Int.emod_nonneg v (show n ≠ 0 by omega); omega⟩
/-- The string so far. -/
def StrIs (w : World) (X : List UInt8) (v : Value) (wc : World) : Prop := ∃ S : ByteArray, v = .string S ∧ S.size ≤ 300 ∧ Hid (S.data.toList = X) ∧ w = wc
theorem strIs_add {w : World} {X : List UInt8} {S T : ByteArray} (HS : Hid (S.data.toList = X)) (Y : List UInt8) (hT : T.data.toList = Y) (hz : (X ++ Y).length ≤ 300) : StrIs w (X ++ Y) (.string (S ++ T)) w := by
  have e : (S ++ T).data.toList = X ++ Y := by rw [ByteArray.data_append, Array.toList_append, HS.out, hT]
  exact ⟨_, rfl, by show (S ++ T).data.toList.length ≤ 300; rw [e]; exact hz, Lib.hid e, rfl⟩
theorem strIs_same {w : World} {X : List UInt8} {S : ByteArray} (HS : Hid (S.data.toList = X)) (hz : S.size ≤ 300) (Y : List UInt8) (hY : Y = []) : StrIs w (X ++ Y) (.string S) w := ⟨_, rfl, hz, Lib.hid (by rw [hY, List.append_nil]; exact HS.out), rfl⟩
def pN (a : Bool) : List UInt8 := if a then [32, 78] else []
def pV (b : Bool) : List UInt8 := if b then [40, 36, 97, 58, 91, 73, 110, 116, 33, 93, 61, 91, 49, 93, 32, 36, 98, 58, 84, 41] else []
def pD (c : Bool) : List UInt8 := if c then [64, 100, 40, 120, 58, 49, 41, 64, 101] else []
def pM (d : Bool) : List UInt8 := if d then mutS else queryS
def pE : List UInt8 := [123, 120, 58, 102, 40, 97, 58, 36, 97, 41, 123, 103, 125, 46, 46, 46, 70, 125]
theorem partsS_eq (a b c d : Bool) (k : Nat) : partsS a b c d k = ((((pM d ++ pN a) ++ pV b) ++ pD c) ++ pE) ++ partsFr k := by
  unfold partsS pM pN pV pD pE
  rw [List.append_assoc, List.append_assoc, List.append_assoc, List.append_assoc]
theorem dgs_one {j : Nat} (h : j < 5) : dgs 1 j = [48 + UInt8.ofNat j] := by
  obtain rfl | rfl | rfl | rfl | rfl : j = 0 ∨ j = 1 ∨ j = 2 ∨ j = 3 ∨ j = 4 := by omega
  all_goals kernel_rfl

theorem undef_no {b : Bool} {C : Prop} (h : some undef = some (Value.bool b)) : C := by
  injection h with h
  cases h
end Go.Proofs.YtibkncgfdhflgaaGreatDoor
