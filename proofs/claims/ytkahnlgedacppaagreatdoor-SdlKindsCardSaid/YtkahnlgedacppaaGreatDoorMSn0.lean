/-
  SdlKinds: its texts.
-/
import Derived.Test.YtkahnlgedacppaaGreatDoorMLaidE
import Derived.Test.YtkahnlgedacppaaGreatDoorMSeg
import Derived.Test.YtkahnlgedacppaaGreatDoorMSmq
namespace Go.Proofs.YtkahnlgedacppaaGreatDoor
open Go.RowKit

/-- What stands ahead of the name, what behind it. -/
def kPre : Nat → List UInt8
  | 0 => [115, 99, 97, 108, 97, 114, 32]
  | 1 => [116, 121, 112, 101, 32]
  | 2 => [105, 110, 116, 101, 114, 102, 97, 99, 101, 32]
  | 3 => [117, 110, 105, 111, 110, 32]
  | 4 => [101, 110, 117, 109, 32]
  | _ => [105, 110, 112, 117, 116, 32]
def kPost : Nat → List UInt8
  | 0 => []
  | 1 => [32, 105, 109, 112, 108, 101, 109, 101, 110, 116, 115, 32, 65, 38, 66, 123, 97, 58, 73, 110, 116, 125]
  | 2 => [123, 97, 40, 98, 58, 67, 61, 68, 41, 58, 91, 69, 33, 93, 33, 125]
  | 3 => [61, 65, 124, 66, 124, 67]
  | 4 => [123, 65, 32, 66, 125]
  | _ => [123, 97, 58, 73, 110, 116, 61, 53, 32, 98, 58, 67, 125]
def kNm (i : Nat) : List UInt8 := 84 :: dgs 2 i
def kSg (i k : Nat) : List UInt8 := kPre k ++ kNm i ++ kPost k ++ [32]
/-- Its tokens. -/
def kTk (k : Nat) (N : List UInt8) : List Sk := match k with
  | 0 => [(1, [115, 99, 97, 108, 97, 114]), (1, N)]
  | 1 => [(1, [116, 121, 112, 101]), (1, N), (1, [105, 109, 112, 108, 101, 109, 101, 110, 116, 115]), (1, [65]), (5, [38]), (1, [66]), (5, [123]), (1, [97]), (5, [58]), (1, [73, 110, 116]), (5, [125])]
  | 2 => [(1, [105, 110, 116, 101, 114, 102, 97, 99, 101]), (1, N), (5, [123]), (1, [97]), (5, [40]), (1, [98]), (5, [58]), (1, [67]), (5, [61]), (1, [68]), (5, [41]), (5, [58]), (5, [91]), (1, [69]), (5, [33]), (5, [93]), (5, [33]), (5, [125])]
  | 3 => [(1, [117, 110, 105, 111, 110]), (1, N), (5, [61]), (1, [65]), (5, [124]), (1, [66]), (5, [124]), (1, [67])]
  | 4 => [(1, [101, 110, 117, 109]), (1, N), (5, [123]), (1, [65]), (1, [66]), (5, [125])]
  | _ => [(1, [105, 110, 112, 117, 116]), (1, N), (5, [123]), (1, [97]), (5, [58]), (1, [73, 110, 116]), (5, [61]), (2, [53]), (1, [98]), (5, [58]), (1, [67]), (5, [125])]
def mkT (p : Nat → Nat) : Nat → List Sk → List Tk
  | _, [] => []
  | i, s :: r => ⟨s.1, s.2, p i⟩ :: mkT p (i + 1) r
theorem mkT_of : ∀ (ts : List Tk) (l : List Nat) , mkT (fun j => ((l ++ ts.map (·.at_)).getD j 0)) l.length (ts.map strip) = ts
  | [], _ => rfl
  | t :: r, l => by
    have h := mkT_of r (l ++ [t.at_])
    rw [List.length_append, List.append_assoc] at h
    show (⟨t.k, t.s, (l ++ t.at_ :: r.map (·.at_)).getD l.length 0⟩ : Tk) :: mkT (fun j => (l ++ t.at_ :: r.map (·.at_)).getD j 0) (l.length + 1) (r.map strip) = _
    have e : (l ++ t.at_ :: r.map (·.at_)).getD l.length 0 = t.at_ := by simp [List.getD]
    rw [e]
    exact congrArg _ h
theorem mkT_ex {ts : List Tk} {ks : List Sk} (h : ts.map strip = ks) : ∃ p, ts = mkT p 0 ks := by
  subst h
  exact ⟨_, (mkT_of ts []).symm⟩

def kDv : JV := ⟨6, ⟨#[68]⟩, [], []⟩
def kFv : JV := ⟨3, ⟨#[53]⟩, [], []⟩
def kZv : JV := ⟨0, ⟨#[]⟩, [], []⟩
def kTy (k : Nat) (N : List UInt8) : TypT := match k with
  | 0 => ⟨1, N, [], [], []⟩
  | 1 => ⟨2, N, [[65], [66]], [⟨[97], [], ([73, 110, 116], []), 1⟩], []⟩
  | 2 => ⟨3, N, [], [⟨[97], [⟨[98], ([67], []), kDv⟩], ([69], [33, 93, 33]), 1⟩], []⟩
  | 3 => ⟨4, N, [[65], [66], [67]], [], []⟩
  | 4 => ⟨5, N, [[65], [66]], [], []⟩
  | _ => ⟨6, N, [], [], [⟨[97], ([73, 110, 116], []), kFv⟩, ⟨[98], ([67], []), kZv⟩]⟩
def addK (x : SchT) (t : TypT) : SchT := ⟨x.qu, x.mu, x.types ++ [t]⟩
theorem kd_n0 (z : Nat) (b : Bool) (x : SchT) (N : List UInt8) (p : Nat → Nat) : sdfM z b x ⟨mkT p 0 (kTk 0 N) ++ [], 0, 0⟩ = ((addK x (kTy 0 N), b), ⟨[], 0, 0⟩) := by rw [sdf_Q]; kernel_rfl
theorem kd_c0 (z : Nat) (b : Bool) (x : SchT) (N : List UInt8) (p : Nat → Nat) (s : List UInt8) (q : Nat) (r : List Tk) : sdfM z b x ⟨mkT p 0 (kTk 0 N) ++ ⟨1, s, q⟩ :: r, 0, 0⟩ = ((addK x (kTy 0 N), b), ⟨⟨1, s, q⟩ :: r, 0, 0⟩) := by rw [sdf_Q]; kernel_rfl
theorem kd_n1 (z : Nat) (b : Bool) (x : SchT) (N : List UInt8) (p : Nat → Nat) : sdfM z b x ⟨mkT p 0 (kTk 1 N) ++ [], 0, 0⟩ = ((addK x (kTy 1 N), b), ⟨[], 0, 0⟩) := by rw [sdf_Q]; kernel_rfl
theorem kd_c1 (z : Nat) (b : Bool) (x : SchT) (N : List UInt8) (p : Nat → Nat) (s : List UInt8) (q : Nat) (r : List Tk) : sdfM z b x ⟨mkT p 0 (kTk 1 N) ++ ⟨1, s, q⟩ :: r, 0, 0⟩ = ((addK x (kTy 1 N), b), ⟨⟨1, s, q⟩ :: r, 0, 0⟩) := by rw [sdf_Q]; kernel_rfl
theorem kd_n2 (z : Nat) (b : Bool) (x : SchT) (N : List UInt8) (p : Nat → Nat) : sdfM z b x ⟨mkT p 0 (kTk 2 N) ++ [], 0, 0⟩ = ((addK x (kTy 2 N), b), ⟨[], 0, 0⟩) := by rw [sdf_Q]; kernel_rfl
theorem kd_c2 (z : Nat) (b : Bool) (x : SchT) (N : List UInt8) (p : Nat → Nat) (s : List UInt8) (q : Nat) (r : List Tk) : sdfM z b x ⟨mkT p 0 (kTk 2 N) ++ ⟨1, s, q⟩ :: r, 0, 0⟩ = ((addK x (kTy 2 N), b), ⟨⟨1, s, q⟩ :: r, 0, 0⟩) := by rw [sdf_Q]; kernel_rfl
theorem kd_n3 (z : Nat) (b : Bool) (x : SchT) (N : List UInt8) (p : Nat → Nat) : sdfM z b x ⟨mkT p 0 (kTk 3 N) ++ [], 0, 0⟩ = ((addK x (kTy 3 N), b), ⟨[], 0, 0⟩) := by rw [sdf_Q]; kernel_rfl
theorem kd_c3 (z : Nat) (b : Bool) (x : SchT) (N : List UInt8) (p : Nat → Nat) (s : List UInt8) (q : Nat) (r : List Tk) : sdfM z b x ⟨mkT p 0 (kTk 3 N) ++ ⟨1, s, q⟩ :: r, 0, 0⟩ = ((addK x (kTy 3 N), b), ⟨⟨1, s, q⟩ :: r, 0, 0⟩) := by rw [sdf_Q]; kernel_rfl
theorem kd_n4 (z : Nat) (b : Bool) (x : SchT) (N : List UInt8) (p : Nat → Nat) : sdfM z b x ⟨mkT p 0 (kTk 4 N) ++ [], 0, 0⟩ = ((addK x (kTy 4 N), b), ⟨[], 0, 0⟩) := by rw [sdf_Q]; kernel_rfl
theorem kd_c4 (z : Nat) (b : Bool) (x : SchT) (N : List UInt8) (p : Nat → Nat) (s : List UInt8) (q : Nat) (r : List Tk) : sdfM z b x ⟨mkT p 0 (kTk 4 N) ++ ⟨1, s, q⟩ :: r, 0, 0⟩ = ((addK x (kTy 4 N), b), ⟨⟨1, s, q⟩ :: r, 0, 0⟩) := by rw [sdf_Q]; kernel_rfl
theorem kd_n5 (z : Nat) (b : Bool) (x : SchT) (N : List UInt8) (p : Nat → Nat) : sdfM z b x ⟨mkT p 0 (kTk 5 N) ++ [], 0, 0⟩ = ((addK x (kTy 5 N), b), ⟨[], 0, 0⟩) := by rw [sdf_Q]; kernel_rfl
theorem kd_c5 (z : Nat) (b : Bool) (x : SchT) (N : List UInt8) (p : Nat → Nat) (s : List UInt8) (q : Nat) (r : List Tk) : sdfM z b x ⟨mkT p 0 (kTk 5 N) ++ ⟨1, s, q⟩ :: r, 0, 0⟩ = ((addK x (kTy 5 N), b), ⟨⟨1, s, q⟩ :: r, 0, 0⟩) := by rw [sdf_Q]; kernel_rfl

def sgOk (i k : Nat) : Bool := match segT 100 0 (kSg i k) with
  | some ts => decide (ts.map strip = kTk k (kNm i)) && (tokSmall ts && (intsOk ts && decide ((kSg i k).length ≤ 60)))
  | none => false
theorem sg_all : ((List.range 20).all fun i => (List.range 6).all fun k => sgOk i k) = true := by kernel_rfl
theorem sg_ok {i k : Nat} (hi : i < 20) (hk : k < 6) : ∃ ts, segT 100 0 (kSg i k) = some ts ∧ ts.map strip = kTk k (kNm i) ∧ tokSmall ts = true ∧ intsOk ts = true ∧ (kSg i k).length ≤ 60 := by
  have := List.all_eq_true.1 sg_all i (List.mem_range.2 hi)
  have := List.all_eq_true.1 this k (List.mem_range.2 hk)
  unfold sgOk at this
  split at this
  · rename_i ts h
    simp only [Bool.and_eq_true, decide_eq_true_eq] at this
    exact ⟨ts, h, this.1, this.2.1, this.2.2.1, this.2.2.2⟩
  · cases this

theorem kd_any {k : Nat} (hk : k < 6) (z : Nat) (b : Bool) (x : SchT) (N : List UInt8) (p : Nat → Nat) (R : List Tk) (hR : R = [] ∨ ∃ s q r, R = ⟨1, s, q⟩ :: r) : sdfM z b x ⟨mkT p 0 (kTk k N) ++ R, 0, 0⟩ = ((addK x (kTy k N), b), ⟨R, 0, 0⟩) := by
  rcases hR with rfl | ⟨s, q, r, rfl⟩
  · match k, hk with
    | 0, _ => exact kd_n0 z b x N p
    | 1, _ => exact kd_n1 z b x N p
    | 2, _ => exact kd_n2 z b x N p
    | 3, _ => exact kd_n3 z b x N p
    | 4, _ => exact kd_n4 z b x N p
    | 5, _ => exact kd_n5 z b x N p
  · match k, hk with
    | 0, _ => exact kd_c0 z b x N p s q r
    | 1, _ => exact kd_c1 z b x N p s q r
    | 2, _ => exact kd_c2 z b x N p s q r
    | 3, _ => exact kd_c3 z b x N p s q r
    | 4, _ => exact kd_c4 z b x N p s q r
    | 5, _ => exact kd_c5 z b x N p s q r
theorem k_head {k : Nat} (hk : k < 6) (N : List UInt8) (p : Nat → Nat) : ∃ s q r, mkT p 0 (kTk k N) = ⟨1, s, q⟩ :: r := by
  match k, hk with
  | 0, _ | 1, _ | 2, _ | 3, _ | 4, _ | 5, _ => exact ⟨_, _, _, rfl⟩
/-- The text of the definitions from the i-th on. -/
def kTx : Nat → List Nat → List UInt8
  | _, [] => []
  | i, k :: r => kSg i k ++ kTx (i + 1) r
def kTys : Nat → List Nat → List TypT
  | _, [] => []
  | i, k :: r => kTy k (kNm i) :: kTys (i + 1) r
def KRun : Nat → List Nat → List Tk → Prop
  | _, [], ts => ts = []
  | i, k :: r, ts => ∃ p ts', ts = mkT p 0 (kTk k (kNm i)) ++ ts' ∧ KRun (i + 1) r ts'
theorem kTx_snoc : ∀ (l : List Nat) (i k : Nat), kTx i (l ++ [k]) = kTx i l ++ kSg (i + l.length) k
  | [], i, k => by
    show kSg i k ++ [] = _
    rw [List.append_nil]
    rfl
  | a :: l, i, k => by
    show kSg i a ++ kTx (i + 1) (l ++ [k]) = (kSg i a ++ kTx (i + 1) l) ++ _
    rw [kTx_snoc l (i + 1) k, List.append_assoc, List.length_cons, show i + 1 + l.length = i + (l.length + 1) by omega]
theorem strip_sh (a : Nat) (ts : List Tk) : (ts.map (shT a)).map strip = ts.map strip := by
  rw [List.map_map]
  rfl
theorem small_sh (a : Nat) (ts : List Tk) : tokSmall (ts.map (shT a)) = tokSmall ts := by
  unfold tokSmall
  rw [List.all_map]
  rfl
theorem ints_sh (a : Nat) (ts : List Tk) : intsOk (ts.map (shT a)) = intsOk ts := by
  unfold intsOk
  rw [List.all_map]
  rfl
theorem kx_lex : ∀ (ks : List Nat) (i : Nat), i + ks.length ≤ 20 → (∀ k ∈ ks, k < 6) → (kTx i ks).length ≤ 60 * ks.length ∧ ∀ (a : Nat) (acc : List Tk), ∃ ts, lxG a (kTx i ks) acc = (acc ++ ts, 0, 0) ∧ KRun i ks ts ∧ tokSmall ts = true ∧ intsOk ts = true
  | [], i, _, _ => ⟨Nat.le_refl _, fun a acc => ⟨[], by show lxG a [] acc = _; rw [lxG_nil, List.append_nil], rfl, rfl, rfl⟩⟩
  | k :: r, i, hi, hk => by
    rw [List.length_cons] at hi
    obtain ⟨tk, h1, h2, h3, h4, h5⟩ := sg_ok (show i < 20 by omega) (hk k List.mem_cons_self)
    obtain ⟨hl, ih⟩ := kx_lex r (i + 1) (by omega) (fun k' h => hk k' (List.mem_cons_of_mem _ h))
    refine ⟨?_, fun a acc => ?_⟩
    · show (kSg i k ++ kTx (i + 1) r).length ≤ _
      rw [List.length_append, List.length_cons]
      omega
    · obtain ⟨ts, e1, e2, e3, e4⟩ := ih (a + (kSg i k).length) (acc ++ tk.map (shT a))
      obtain ⟨p, hp⟩ := mkT_ex (show (tk.map (shT a)).map strip = kTk k (kNm i) by rw [strip_sh, h2])
      refine ⟨tk.map (shT a) ++ ts, ?_, ⟨p, ts, by rw [hp], e2⟩, ?_, ?_⟩
      · show lxG a (kSg i k ++ kTx (i + 1) r) acc = _
        rw [segT_all h1, e1, List.append_assoc]
      · have := small_sh a tk
        unfold tokSmall at *
        rw [List.all_append, this, h3, e3]
        rfl
      · have := ints_sh a tk
        unfold intsOk at *
        rw [List.all_append, this, h4, e4]
        rfl
theorem kr_head : ∀ (ks : List Nat) (i : Nat) (ts : List Tk), (∀ k ∈ ks, k < 6) → KRun i ks ts → ts = [] ∨ ∃ s q r, ts = ⟨1, s, q⟩ :: r
  | [], _, ts, _, h => .inl h
  | k :: r, i, ts, hk, h => by
    obtain ⟨p, ts', rfl, _⟩ := h
    obtain ⟨s, q, r', e⟩ := k_head (hk k List.mem_cons_self) (kNm i) p
    exact .inr ⟨s, q, r' ++ ts', by rw [e, List.cons_append]⟩
theorem kx_parse (z : Nat) : ∀ (ks : List Nat) (i n : Nat) (x : SchT) (ts : List Tk), (∀ k ∈ ks, k < 6) → KRun i ks ts → ks.length < n → sgoM z n true x ⟨ts, 0, 0⟩ = (⟨x.qu, x.mu, x.types ++ kTys i ks⟩, ⟨[], 0, 0⟩)
  | [], i, n + 1, x, ts, _, h, _ => by
    have : ts = [] := h
    subst this
    show (x, _) = _
    rw [show kTys i [] = [] from rfl, List.append_nil]
  | k :: r, i, n + 1, x, ts, hk, h, hn => by
    obtain ⟨p, ts', rfl, h'⟩ := h
    have hk' : ∀ k ∈ r, k < 6 := fun k' h => hk k' (List.mem_cons_of_mem _ h)
    have hk0 := hk k List.mem_cons_self
    have hd := kd_any hk0 z true x (kNm i) p ts' (kr_head r (i + 1) ts' hk' h')
    obtain ⟨s, q, r', e⟩ := k_head hk0 (kNm i) p
    rw [sgoM, if_neg (by show ¬ (mkT p 0 (kTk k (kNm i)) ++ ts').isEmpty = true; rw [e]; simp), hd]
    dsimp only
    rw [kx_parse z r (i + 1) n (addK x (kTy k (kNm i))) ts' hk' h' (by rw [List.length_cons] at hn; omega)]
    show (_, _) = _
    unfold addK
    dsimp only
    rw [List.append_assoc]
    rfl
theorem kr_len : ∀ (ks : List Nat) (i : Nat) (ts : List Tk), (∀ k ∈ ks, k < 6) → KRun i ks ts → ks.length ≤ ts.length
  | [], _, ts, _, h => Nat.zero_le _
  | k :: r, i, ts, hk, h => by
    obtain ⟨p, ts', rfl, h'⟩ := h
    obtain ⟨s, q, r', e⟩ := k_head (hk k List.mem_cons_self) (kNm i) p
    have := kr_len r (i + 1) ts' (fun k' h => hk k' (List.mem_cons_of_mem _ h)) h'
    rw [e, List.length_append, List.length_cons, List.length_cons]
    omega
/-- What is read of all of them. -/
theorem kinds_read (ks : List Nat) (hl : ks.length ≤ 20) (hk : ∀ k ∈ ks, k < 6) : ∃ mu, sparseM (kTx 0 ks) = (⟨queryN, mu, kTys 0 ks⟩, 0, 0) ∧ tokSmall (lexP (kTx 0 ks)).1 = true ∧ intsOk (lexP (kTx 0 ks)).1 = true := by
  obtain ⟨h1, h2⟩ := kx_lex ks 0 (by omega) hk
  obtain ⟨ts, e1, e2, e3, e4⟩ := h2 0 []
  have hL : lexP (kTx 0 ks) = (ts, 0, 0) := by rw [lexP_G _ (by omega), e1]; rfl
  have hP := kx_parse (kTx 0 ks).length ks 0 (ts.length + 1) schZ ts hk e2 (by have := kr_len ks 0 ts hk e2; omega)
  refine ⟨if (kTys 0 ks).any (fun t => t.nm == mutN) then mutN else [], ?_, by rw [hL]; exact e3, by rw [hL]; exact e4⟩
  unfold sparseM
  rw [hL]
  dsimp only
  rw [if_pos rfl]
  unfold sdlM
  dsimp only
  rw [hP]
  rfl

end Go.Proofs.YtkahnlgedacppaaGreatDoor
