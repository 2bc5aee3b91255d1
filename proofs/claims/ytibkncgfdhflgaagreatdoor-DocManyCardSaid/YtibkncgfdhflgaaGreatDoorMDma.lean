/-
  Documents, from their tokens: the texts of three laws of layer 6, read by the plain function.
-/
import Derived.Test.YtibkncgfdhflgaaGreatDoorMDm
import Derived.Test.YtibkncgfdhflgaaGreatDoorMDe4
import Derived.Test.YtibkncgfdhflgaaGreatDoorMDaw
import Derived.Test.YtibkncgfdhflgaaGreatDoorPlace
namespace Go.Proofs.YtibkncgfdhflgaaGreatDoor
open Go.RowKit

/-- The text of an operation with each of its parts, or without, and k fragments. -/
def partsFr : Nat → List UInt8
  | 0 => []
  | k + 1 => partsFr k ++ ([102, 114, 97, 103, 109, 101, 110, 116, 32, 70] ++ ((48 + UInt8.ofNat k) :: [32, 111, 110, 32, 84, 64, 100, 123, 97, 125]))
def partsS (name vars dirs mut_ : Bool) (k : Nat) : List UInt8 :=
  (if mut_ then mutS else queryS) ++ ((if name then [32, 78] else []) ++ ((if vars then [40, 36, 97, 58, 91, 73, 110, 116, 33, 93, 61, 91, 49, 93, 32, 36, 98, 58, 84, 41] else []) ++ ((if dirs then [64, 100, 40, 120, 58, 49, 41, 64, 101] else []) ++ ([123, 120, 58, 102, 40, 97, 58, 36, 97, 41, 123, 103, 125, 46, 46, 46, 70, 125] ++ partsFr k))))
def partsOp (name vars dirs mut_ : Bool) (o : OpT) : Bool :=
  (o.mut_ == mut_) && ((o.nm == [78]) == name) && (decide (o.vars.length = 2) == vars) && (decide (o.dirs.length = 2) == dirs) &&
  (match o.sels with
    | [x, y] => x.al == [120] && (x.nm == [102] && (decide (x.sels.length = 1) && y.k == 2))
    | _ => false) &&
  (match o.vars with
    | [v, u] => v.dflt.k == 7 && (v.ty.2 == [33, 93] && u.dflt.k == 0)
    | _ => !vars)
def partsOk (name vars dirs mut_ : Bool) (k : Nat) : Bool :=
  match parseP (partsS name vars dirs mut_ k) with
    | (⟨[o], fs⟩, 0, 0) => decide (fs.length = k) && partsOp name vars dirs mut_ o
    | _ => false
def bb : List Bool := [false, true]
theorem parts_all : (bb.all fun a => bb.all fun b => bb.all fun c => bb.all fun d => (List.range 5).all fun k => partsOk a b c d k) = true := by kernel_rfl

/-- A set of n fields a. -/
def manyS (n : Nat) : List UInt8 := 123 :: ((List.replicate n [97, 32]).flatten ++ [125])
def selA : SelT := .mk 1 [] [97] [] [] [] []
theorem sel_a (S : List Sk → PR (List SelT)) (t : Sk) (r : List Sk) (h : t = (1, [97]) ∨ t = (5, [125])) : selP S ((1, [97]) :: t :: r) = (selA, t :: r, 0) := by
  rcases h with rfl | rfl <;> rfl
theorem many_go (S : List Sk → PR (List SelT)) : ∀ (n f : Nat) (acc : List SelT), n < f → (acc ≠ [] ∨ 0 < n) →
    manyGo (selP S) 125 f (List.replicate n (1, [97]) ++ [(5, [125])]) acc = (acc ++ List.replicate n selA, [], 0)
  | 0, f + 1, acc, _, h => by
    have ha : acc.isEmpty = false := by
      cases acc with
      | nil => rcases h with h | h <;> simp at h
      | cons _ _ => rfl
    show manyGo (selP S) 125 (f + 1) [(5, [125])] acc = _
    unfold manyGo
    rw [ha, if_pos (by rfl), List.replicate_zero, List.append_nil]
    rfl
  | n + 1, f + 1, acc, hf, _ => by
    obtain ⟨t, r, e, ht⟩ : ∃ t r, List.replicate n ((1, [97]) : Sk) ++ [(5, [125])] = t :: r ∧ (t = (1, [97]) ∨ t = (5, [125])) := by
      cases n with
      | zero => exact ⟨_, _, rfl, .inr rfl⟩
      | succ n => exact ⟨_, _, rfl, .inl rfl⟩
    have hI := many_go S n f (acc ++ [selA]) (by omega) (.inl (by simp))
    rw [List.replicate_succ, List.cons_append]
    rw [e] at hI ⊢
    unfold manyGo
    rw [if_neg (by rw [show sg (hdK ((1, [97]) :: t :: r)) 125 = false from rfl, Bool.and_false]; decide), sel_a S t r ht]
    show manyGo (selP S) 125 f (t :: r) (acc ++ [selA]) = _
    rw [hI, List.append_assoc]
    rfl
theorem many_lex : ∀ (n a : Nat) (acc : List Tk), ∃ ts, ts.map strip = List.replicate n (1, [97]) ++ [(5, [125])] ∧ lxG a ((List.replicate n [97, 32]).flatten ++ [125]) acc = (acc ++ ts, 0, 0)
  | 0, a, acc => ⟨[⟨5, [125], a⟩], rfl, by
    show lxG a (125 :: []) acc = _
    rw [sign_go (by decide), lxG_nil]⟩
  | n + 1, a, acc => by
    obtain ⟨t1, e1, h1⟩ := name_lexes (l := [97]) (by decide) (32 :: ((List.replicate n [97, 32]).flatten ++ [125])) (fun c hc => by injection hc with hc; subst hc; decide) a acc
    obtain ⟨ts, e, h⟩ := many_lex n (a + [97].length + 1) (acc ++ t1)
    refine ⟨t1 ++ ts, by rw [List.map_append, e1, e]; rfl, ?_⟩
    rw [List.replicate_succ, List.flatten_cons]
    show lxG a ([97] ++ (32 :: ((List.replicate n [97, 32]).flatten ++ [125]))) acc = _
    rw [h1, lxG_blank _ _ _ _ (by decide)]
    exact h.trans (by rw [List.append_assoc])
theorem many_len (n : Nat) : (manyS n).length = 2 * n + 2 := by
  have : ∀ n : Nat, (List.replicate n ([97, 32] : List UInt8)).flatten.length = 2 * n := by
    intro n
    induction n with
    | zero => rfl
    | succ n ih => rw [List.replicate_succ, List.flatten_cons, List.length_append, ih]; simp; omega
  unfold manyS
  rw [List.length_cons, List.length_append, this]
  simp
/-- What is read of n fields. -/
theorem many_parse (n : Nat) (h0 : 0 < n) (hn : n ≤ 1900) : parseP (manyS n) = if n ≤ 598 then (⟨[⟨false, [], [], [], List.replicate n selA⟩], []⟩, 0, 0) else (docZ, 0, 3) := by
  have hl := many_len n
  obtain ⟨ts, e, h⟩ := many_lex n 1 [⟨5, [123], 0⟩]
  have hL : lexP (manyS n) = (⟨5, [123], 0⟩ :: ts, 0, 0) := by
    rw [lexP_G _ (by omega)]
    unfold manyS
    rw [sign_go (by decide)]
    exact h
  have ht : ts.length = n + 1 := by
    have := congrArg List.length e
    simpa using this
  unfold parseP
  rw [if_neg (by omega), hL, if_pos rfl]
  show parseT _ (⟨5, [123], 0⟩ :: ts) = _
  unfold parseT
  rw [List.length_cons, ht]
  by_cases hb : n ≤ 598
  · rw [if_neg (by omega), if_pos hb]
    have hm : List.map strip (⟨5, [123], 0⟩ :: ts) = (5, [123]) :: (List.replicate n (1, [97]) ++ [(5, [125])]) := by rw [List.map_cons, e]; rfl
    have hs : setP 12 ((5, [123]) :: (List.replicate n (1, [97]) ++ [(5, [125])])) = (List.replicate n selA, [], 0) := by
      unfold setP
      rw [if_pos (by rfl)]
      have := many_go (setP 11) n ((5, [123]) :: (List.replicate n (1, [97]) ++ [(5, [125])]) : List Sk).length [] (by simp; omega) (.inr h0)
      rw [List.nil_append] at this
      exact this
    have hd : docGo (n + 1 + 1 + 1) ((5, [123]) :: (List.replicate n (1, [97]) ++ [(5, [125])])) docZ = (⟨[⟨false, [], [], [], List.replicate n selA⟩], []⟩, [], 0) := by
      unfold docGo defP
      rw [if_pos (by rfl), hs]
      rfl
    rw [hm, hd]
    rfl
  · rw [if_pos (by omega), if_neg hb]
/-- A set of one field, with so many blanks. -/
def longS (n : Nat) : List UInt8 := 123 :: 97 :: (List.replicate n 32 ++ [125])
def longOk (k : Nat) : Bool :=
  match parseP (longS (3994 + k)) with
    | (⟨[_], []⟩, _, e) => e == 0 && decide (3997 + k ≤ 4000)
    | (⟨[], []⟩, _, e) => e == 3 && decide (4000 < 3997 + k)
    | _ => false
theorem long_all : ((List.range 6).all fun k => longOk k) = true := by kernel_rfl

end Go.Proofs.YtibkncgfdhflgaaGreatDoor

/-
  DocMany: its texts, read by the plain parser.
-/
namespace Go.Proofs.YtibkncgfdhflgaaGreatDoor
open Go.RowKit

theorem slM_a (z : Nat) (S : Ms → List SelT × Ms) (a : Nat) (t : Tk) (r : List Tk) (h : strip t = (1, [97]) ∨ strip t = (5, [125])) : slM z S ⟨⟨1, [97], a⟩ :: t :: r, 0, 0⟩ = (selA, ⟨t :: r, 0, 0⟩) := by
  obtain ⟨k, s, b⟩ := t
  rcases h with h | h <;> (injection h with h1 h2; dsimp only at h1 h2; subst h1 h2; rfl)
theorem more_a (z : Nat) (S : Ms → List SelT × Ms) : ∀ (n f : Nat) (l : List Tk) (acc : List SelT), n + 1 < f → l.map strip = List.replicate (n + 1) (1, [97]) ++ [(5, [125])] →
    moreM [125] (slM z S) f ⟨l, 0, 0⟩ acc = (acc ++ List.replicate (n + 1) selA, ⟨[], 0, 0⟩)
  | n, f + 1, l, acc, hf, hl => by
    rw [List.replicate_succ, List.cons_append] at hl
    cases l with
    | nil => cases hl
    | cons t0 l1 =>
      rw [List.map_cons] at hl
      injection hl with h0 hl
      obtain ⟨k0, s0, a0⟩ := t0
      injection h0 with h1 h2
      dsimp only at h1 h2
      subst h1 h2
      cases l1 with
      | nil => cases n <;> cases hl
      | cons t1 r =>
        have ht : strip t1 = (1, [97]) ∨ strip t1 = (5, [125]) := by
          cases n with
          | zero => injection hl with h0 _; exact .inr h0
          | succ n => rw [List.replicate_succ] at hl; injection hl with h0 _; exact .inl h0
        rw [moreM, if_pos rfl, slM_a z S a0 t1 r ht]
        cases n with
        | zero =>
          injection hl with h0 hr
          obtain ⟨k1, s1, a1⟩ := t1
          injection h0 with h1 h2
          dsimp only at h1 h2
          subst h1 h2
          have hr0 : r = [] := by
            cases r with
            | nil => rfl
            | cons _ _ => cases hr
          subst hr0
          rw [if_pos (by rfl)]
          rfl
        | succ n =>
          have hne : isSg [125] (hdT ((selA, (⟨t1 :: r, 0, 0⟩ : Ms)).2).l) = false := by
            rw [List.replicate_succ] at hl
            injection hl with h0 _
            obtain ⟨k1, s1, a1⟩ := t1
            injection h0 with h1 h2
            dsimp only at h1 h2
            subst h1 h2
            rfl
          rw [if_neg (by rw [hne]; decide)]
          have := more_a z S n f (t1 :: r) (acc ++ [selA]) (by omega) hl
          show moreM [125] (slM z S) f ⟨t1 :: r, 0, 0⟩ (acc ++ [selA]) = _
          rw [this, List.append_assoc]
          rfl

/-- What is read of n fields. -/
theorem many_parseM (n : Nat) (h0 : 0 < n) (hn : n ≤ 1900) : parseM (manyS n) = (if n ≤ 598 then (⟨[⟨false, [], [], [], List.replicate n selA⟩], []⟩, 0, 0) else (docZ, 0, 3)) ∧ tokSmall (lexP (manyS n)).1 = true := by
  have hl := many_len n
  obtain ⟨ts, e, h⟩ := many_lex n 1 [⟨5, [123], 0⟩]
  have hL : lexP (manyS n) = (⟨5, [123], 0⟩ :: ts, 0, 0) := by
    rw [lexP_G _ (by omega)]
    unfold manyS
    rw [sign_go (by decide)]
    exact h
  have ht : ts.length = n + 1 := by
    have := congrArg List.length e
    simpa using this
  refine ⟨?_, ?_⟩
  · unfold parseM
    rw [if_neg (by omega), hL, if_pos rfl]
    dsimp only
    rw [List.length_cons, ht]
    by_cases hb : n ≤ 598
    · rw [if_neg (by omega), if_pos hb]
      obtain ⟨n', rfl⟩ : ∃ n', n = n' + 1 := ⟨n - 1, by omega⟩
      have hm := more_a (manyS (n' + 1)).length (setM (manyS (n' + 1)).length 11) n' (ts.length + 1) ts [] (by omega) e
      have hs : setM (manyS (n' + 1)).length 12 ⟨⟨5, [123], 0⟩ :: ts, 0, 0⟩ = (List.replicate (n' + 1) selA, ⟨[], 0, 0⟩) := by
        rw [List.nil_append] at hm
        exact hm
      have hd : dcM (manyS (n' + 1)).length ⟨⟨5, [123], 0⟩ :: ts, 0, 0⟩ = (⟨[⟨false, [], [], [], List.replicate (n' + 1) selA⟩], []⟩, ⟨[], 0, 0⟩) := by
        have h1 : defM (manyS (n' + 1)).length docZ ⟨⟨5, [123], 0⟩ :: ts, 0, 0⟩ = (⟨[⟨false, [], [], [], List.replicate (n' + 1) selA⟩], []⟩, ⟨[], 0, 0⟩) := by
          unfold defM
          rw [if_neg (by rw [show isWd fragS (hdT (⟨5, [123], 0⟩ :: ts)) = false from rfl]; decide)]
          unfold opeM oheM
          rw [if_pos (by rfl)]
          dsimp only
          rw [hs]
          rfl
        unfold dcM
        rw [h1]
        rfl
      rw [hd]
      rfl
    · rw [if_pos (by omega), if_neg hb]
  · rw [hL]
    refine List.all_eq_true.2 fun t ht => ?_
    rw [decide_eq_true_eq]
    rcases List.mem_cons.1 ht with rfl | ht
    · decide
    · have : strip t ∈ List.replicate n ((1, [97]) : Sk) ++ [(5, [125])] := by rw [← e]; exact List.mem_map.2 ⟨t, ht, rfl⟩
      rcases List.mem_append.1 this with h | h
      · have := List.eq_of_mem_replicate h
        have : t.s = [97] := congrArg Prod.snd this
        rw [this]; decide
      · have : strip t = (5, [125]) := by simpa using h
        have : t.s = [125] := congrArg Prod.snd this
        rw [this]; decide

def manS : Nat → List UInt8
  | 0 => [123]
  | n + 1 => manS n ++ [97, 32]
def lonS : Nat → List UInt8
  | 0 => [123, 97]
  | n + 1 => lonS n ++ [32]
theorem manS_eq (n : Nat) : manS n = 123 :: (List.replicate n ([97, 32] : List UInt8)).flatten := by
  induction n with
  | zero => rfl
  | succ n ih =>
    rw [manS, ih, List.replicate_succ', List.flatten_append]
    simp
theorem man_many (n : Nat) : manS n ++ [125] = manyS n := by rw [manS_eq]; rfl
theorem manS_len (n : Nat) : (manS n).length = 2 * n + 1 := by
  have := many_len n
  rw [← man_many, List.length_append] at this
  simp at this; omega
theorem lonS_len (n : Nat) : (lonS n).length = n + 2 := by
  induction n with
  | zero => rfl
  | succ n ih => rw [lonS, List.length_append, ih]; rfl
theorem lon_long (n : Nat) : lonS n ++ [125] = longS n := by
  have : ∀ n, lonS n = 123 :: 97 :: List.replicate n 32 := by
    intro n
    induction n with
    | zero => rfl
    | succ n ih => rw [lonS, ih, List.replicate_succ']; rfl
  rw [this]; rfl
def lOk (k : Nat) : Bool :=
  tokSmall (lexP (longS (3994 + k))).1 && (if k ≤ 3 then (parseM (longS (3994 + k))).2.2 == 0 else (parseM (longS (3994 + k))).2.2 == 3 && (parseM (longS (3994 + k))).1.ops.length == 0)
theorem l_all : ((List.range 6).all lOk) = true := by kernel_rfl
theorem l_ok {k : Nat} (h : k < 6) : lOk k = true := List.all_eq_true.1 l_all k (List.mem_range.2 h)
end Go.Proofs.YtibkncgfdhflgaaGreatDoor

/-
  DocMany: its walk.
-/
namespace Go.Proofs.YtibkncgfdhflgaaGreatDoor
open Go.RowKit

theorem mrem_nat (v n : Int) (hn : 0 < n) : ∃ u : Nat, v % n = (u : Int) ∧ (u : Int) < n := ⟨(v % n).toNat, by have := Int.emod_nonneg v (show n ≠ 0 by omega); omega, by have := Int.emod_lt_of_pos v hn; have := Int.emod_nonneg v (show n ≠ 0 by omega); omega⟩
def szV : Value → Nat
  | .string s => s.size
  | _ => 0
theorem sel_facts {w : World} {D : Nat → Prop} {o : OpT} {fs : List FragT} {vo vf : Value} (h : DocE w D ⟨[o], fs⟩ (.agg #[vo, vf])) : ∃ g off c a2 c2 a3 c3, vo = .slice (some ⟨g, off, none⟩) 1 c ∧ vf = .slice a3 fs.length c3 ∧ 1 ≤ c ∧ D g ∧ w.cell? ⟨g, off + 4, none⟩ = some (.slice a2 o.sels.length c2) := by
  obtain ⟨vo', vf', e, ho, hf⟩ := h
  injection e with e
  have e' := congrArg Array.toList e
  simp at e'
  obtain ⟨rfl, rfl⟩ := e'
  obtain ⟨a3, c3, rfl⟩ := hf.shape
  obtain ⟨a, c, rfl, -, hc, hr⟩ := ho
  obtain ⟨g, off, rfl, hg, hel⟩ := hr (show (0 : Nat) < 1 by decide)
  obtain ⟨cs, hl, hcs, hE⟩ := hel 0 o rfl
  obtain ⟨_, vv, vd, vs, rfl, hv1, hd1, hs1⟩ := hE
  obtain ⟨a2, c2, rfl⟩ := hs1.shape
  have k4 := hcs 4 _ rfl
  rw [Nat.zero_mul, Nat.add_zero] at k4
  exact ⟨g, off, c, a2, c2, a3, c3, rfl, rfl, hc, hg, k4⟩
theorem doc_shape {w : World} {D : Nat → Prop} {d : DocT} {vo vf : Value} (h : DocE w D d (.agg #[vo, vf])) : ∃ ao co af cf, vo = .slice ao d.ops.length co ∧ vf = .slice af d.frags.length cf := by
  obtain ⟨vo', vf', e, ho, hf⟩ := h
  injection e with e
  have e' := congrArg Array.toList e
  simp at e'
  obtain ⟨rfl, rfl⟩ := e'
  obtain ⟨ao, co, rfl⟩ := ho.shape
  obtain ⟨af, cf, rfl⟩ := hf.shape
  exact ⟨_, _, _, _, rfl, rfl⟩

set_option maxHeartbeats 8000000 in
set_option maxRecDepth 100000 in
theorem docMany_walk (n : Int) (long : Bool) (w : World) : Calls Tryz.prog 5 #[.int .i64 n, .bool long] w (TrueBelow w) := by
  obtain ⟨u, eu, lu⟩ := mrem_nat n 6 (by omega)
  have HPn : ∀ W, Calls Tryz.prog 11 #[.int .i64 n, .int .i64 6] W fun e w' => e = .returned (.int .i64 (u : Int)) ∧ W = w' := fun W => by have := place_any n 6 W (by omega) (by omega); rw [eu] at this; exact this
  have hu : u < 6 := by omega
  have HAW := docAwake
  clear eu lu
  cases long with
  | true =>
    go_enter Tryz.func5, Tryz.ntmps5
    go_wp2_with fail
    with_reducible refine (HPn _).mono ?_
    rintro e w' ⟨rfl, rfl⟩
    clear HPn
    go_wp2_with fail
    go_loop [6] (fun s => ∃ (j : Nat) (S : ByteArray), s = .string S ∧ S.size = j + 2 ∧ j ≤ 3994 + u ∧ Hid (S.data.toList = lonS j)) (fun s => 5000 - szV s)
    case atStart => exact ⟨0, _, rfl, by decide, by omega, Lib.hid rfl⟩
    case round =>
      obtain ⟨j, S, rfl, hz, hj, HS⟩ := hrel
      have HZ := Lib.hid hz
      have hSz : S.size ≤ 5000 := by omega
      by_cases hlt : j < 3994 + u
      · have hd : decide ((S.size : Int) < 3996 + u) = true := decide_eq_true (by omega)
        clear hz
        go_wp2_with fail
        go_round
        case rel => exact ⟨j + 1, S ++ ⟨#[32]⟩, rfl, by rw [ByteArray.size_append, HZ.out]; rfl, by omega, Lib.hid (by rw [ByteArray.data_append, Array.toList_append, HS.out]; rfl)⟩
        case measure =>
          have := HZ.out
          show 5000 - (S ++ ⟨#[32]⟩ : ByteArray).size < 5000 - S.size
          rw [ByteArray.size_append]
          show 5000 - (S.size + 1) < _
          omega
      · have hd : decide ((S.size : Int) < 3996 + u) = false := decide_eq_false (by omega)
        obtain rfl : j = 3994 + u := by omega
        have hX : (S ++ ⟨#[125]⟩ : ByteArray).data.toList = longS (3994 + u) := by
          rw [ByteArray.data_append, Array.toList_append, HS.out]
          exact lon_long _
        have hok := l_ok hu
        unfold lOk at hok
        rw [← hX, Bool.and_eq_true] at hok
        have HP := parse_any (S ++ ⟨#[125]⟩) w (by rw [ByteArray.size_append]; show S.size + 1 ≤ _; omega) hok.1
        have hr := hok.2
        generalize parseM (S ++ ⟨#[125]⟩ : ByteArray).data.toList = R at *
        obtain ⟨d, at_, er⟩ := R
        dsimp only at hr
        by_cases h3 : u ≤ 3
        · rw [if_pos h3] at hr
          simp only [beq_iff_eq] at hr
          subst hr
          have e4 : decide ((S.size : Int) + 1 ≤ 4000) = true := decide_eq_true (by omega)
          clear hX hok HS hz
          go_wp2_with fail
          refine HP.mono ?_
          rintro e w1 ⟨vo, vf, rfl, hdoc, b1⟩
          obtain ⟨ao, co, af, cf, rfl, rfl⟩ := doc_shape hdoc
          dsimp only
          have HB := Lib.hid (b1.alloc b1.size (.cells #[.slice ao d.ops.length co, .slice af d.frags.length cf] 25))
          clear HP b1 hdoc
          go_wp2_with fail
          refine (HAW _).mono ?_
          rintro e w4 ⟨rfl, b4⟩
          go_wp2_with fail
          go_ret
          exact ⟨rfl, HB.out.trans (b4.mono HB.out.size)⟩
        · rw [if_neg h3] at hr
          simp only [Bool.and_eq_true, beq_iff_eq] at hr
          obtain ⟨rfl, hl0⟩ := hr
          have e4 : decide ((S.size : Int) + 1 ≤ 4000) = false := decide_eq_false (by omega)
          clear hX hok HS hz
          go_wp2_with fail
          refine HP.mono ?_
          rintro e w1 ⟨vo, vf, rfl, hdoc, b1⟩
          obtain ⟨ao, co, af, cf, rfl, rfl⟩ := doc_shape hdoc
          dsimp only
          rw [hl0]
          have HB := Lib.hid (b1.alloc b1.size (.cells #[.slice ao 0 co, .slice af d.frags.length cf] 25))
          clear HP b1 hdoc hl0
          go_wp2_with fail
          refine (HAW _).mono ?_
          rintro e w4 ⟨rfl, b4⟩
          go_wp2_with fail
          go_ret
          exact ⟨rfl, HB.out.trans (b4.mono HB.out.size)⟩
  | false =>
    go_enter Tryz.func5, Tryz.ntmps5
    go_wp2_with fail
    with_reducible refine (HPn _).mono ?_
    rintro e w' ⟨rfl, rfl⟩
    clear HPn
    go_wp2_with fail
    go_loop [10, 11] (fun s i => ∃ (j : Nat) (S : ByteArray), s = .string S ∧ i = .int .i64 j ∧ S.size = 2 * j + 1 ∧ j ≤ 595 + u ∧ Hid (S.data.toList = manS j)) (fun _ i => 595 + u - (intOf i).toNat)
    case atStart => exact ⟨0, _, rfl, rfl, by decide, by omega, Lib.hid rfl⟩
    case round =>
      obtain ⟨j, S, rfl, rfl, hz, hj, HS⟩ := hrel
      have HZ := Lib.hid hz
      have hSz : S.size ≤ 5000 := by omega
      have hw : IntKind.i64.wrap ((j : Int) + 1) = (j : Int) + 1 := IntWalk.i64_in _ (by omega)
      by_cases hlt : j < 595 + u
      · have hd : decide ((j : Int) < 595 + u) = true := decide_eq_true (by omega)
        clear hz
        go_wp2_with fail
        go_round
        case rel => exact ⟨j + 1, S ++ ⟨#[97, 32]⟩, rfl, by go_num, by rw [ByteArray.size_append, HZ.out]; show 2 * j + 1 + 2 = _; omega, by omega, Lib.hid (by rw [ByteArray.data_append, Array.toList_append, HS.out]; rfl)⟩
        case measure => simp [intOf]; omega
      · have hd : decide ((j : Int) < 595 + u) = false := decide_eq_false (by omega)
        obtain rfl : j = 595 + u := by omega
        have hX : (S ++ ⟨#[125]⟩ : ByteArray).data.toList = manyS (595 + u) := by
          rw [ByteArray.data_append, Array.toList_append, HS.out]
          exact man_many _
        obtain ⟨hpm, hsm⟩ := many_parseM (595 + u) (by omega) (by omega)
        rw [← hX] at hpm hsm
        have HP := parse_any (S ++ ⟨#[125]⟩) w (by rw [ByteArray.size_append]; show S.size + 1 ≤ _; omega) hsm
        rw [hpm] at HP
        by_cases h3 : u ≤ 3
        · rw [if_pos (by omega)] at HP
          have e6 : decide ((600 : Int) < 597 + u) = false := decide_eq_false (by omega)
          have hrl : (List.replicate (595 + u) selA).length = 595 + u := List.length_replicate
          clear hX hpm hsm HS hz
          go_wp2_with fail
          refine HP.mono ?_
          rintro e w1 ⟨vo, vf, rfl, hdoc, b1⟩
          dsimp only at hdoc
          obtain ⟨g, off, cc, a2, c2, a3, c3, rfl, rfl, hc, hg, k4⟩ := sel_facts hdoc
          dsimp only at k4
          rw [hrl] at k4
          have hb2 := b1.alloc b1.size (.cells #[.slice (some ⟨g, off, none⟩) 1 cc, .slice a3 ([] : List FragT).length c3] 25)
          have k5 := (World.cell?_of_block (a := ⟨g, off + 4, none⟩) (Below.heap_alloc w1 (.cells #[.slice (some ⟨g, off, none⟩) 1 cc, .slice a3 ([] : List FragT).length c3] 25) g hg.2)).trans k4
          have hgl := hg.2
          have e7 : (((595 + u : Nat) : Int) == 595 + (u : Int)) = true := by rw [beq_iff_eq]; omega
          have HB := Lib.hid hb2
          clear HP b1 hdoc hb2 hrl hg
          go_wp2_with fail
          refine (HAW _).mono ?_
          rintro e w4 ⟨rfl, b4⟩
          go_wp2_with fail
          go_ret
          exact ⟨rfl, HB.out.trans (b4.mono HB.out.size)⟩
        · rw [if_neg (by omega)] at HP
          have e6 : decide ((600 : Int) < 597 + u) = true := decide_eq_true (by omega)
          clear hX hpm hsm HS hz
          go_wp2_with fail
          refine HP.mono ?_
          rintro e w1 ⟨vo, vf, rfl, hdoc, b1⟩
          obtain ⟨ao, co, af, cf, rfl, rfl⟩ := doc_shape hdoc
          rw [show ((docZ, 0, 3) : DocT × Nat × Nat).1.ops.length = 0 from rfl, show ((docZ, 0, 3) : DocT × Nat × Nat).1.frags.length = 0 from rfl]
          have HB := Lib.hid (b1.alloc b1.size (.cells #[.slice ao 0 co, .slice af 0 cf] 25))
          clear HP b1 hdoc
          go_wp2_with fail
          refine (HAW _).mono ?_
          rintro e w4 ⟨rfl, b4⟩
          go_wp2_with fail
          go_ret
          exact ⟨rfl, HB.out.trans (b4.mono HB.out.size)⟩

end Go.Proofs.YtibkncgfdhflgaaGreatDoor
