/-
  sdl's parser as it goes: schemas as plain lists, the error that it keeps. Plain functions alone.
-/
import Derived.Test.YtkahnlgedacppaaGreatDoorMDm
import Derived.Lib.AtoiAll
import Derived.Test.YtkahnlgedacppaaGreatDoorMKq4
import Derived.Test.YtkahnlgedacppaaGreatDoorMKa
import Derived.Test.YtkahnlgedacppaaGreatDoorMKn
import Derived.Shelf.Strconv.AtoiAll
import Derived.Test.YtkahnlgedacppaaGreatDoorProg
import Derived.Test.YtkahnlgedacppaaGreatDoorMAw
import Derived.Lib.AtoiErrMem
namespace Go.Proofs.YtkahnlgedacppaaGreatDoor
open Go.RowKit

structure FldT where
  nm : Nm
  args : List VarT
  ty : Nm × Nm
  cost : Int
structure TypT where
  k : Nat
  nm : Nm
  names : List Nm
  flds : List FldT
  ins : List VarT
structure SchT where
  qu : Nm
  mu : Nm
  types : List TypT
def schZ : SchT := ⟨[], [], []⟩
def costS : List UInt8 := [99, 111, 115, 116]
def nS : List UInt8 := [110]
def implS : List UInt8 := [105, 109, 112, 108, 101, 109, 101, 110, 116, 115]
def schemaS : List UInt8 := [115, 99, 104, 101, 109, 97]
def scalarS : List UInt8 := [115, 99, 97, 108, 97, 114]
def typeS : List UInt8 := [116, 121, 112, 101]
def faceS : List UInt8 := [105, 110, 116, 101, 114, 102, 97, 99, 101]
def unionS : List UInt8 := [117, 110, 105, 111, 110]
def enumS : List UInt8 := [101, 110, 117, 109]
def inputS : List UInt8 := [105, 110, 112, 117, 116]
def queryN : Nm := [81, 117, 101, 114, 121]
def mutN : Nm := [77, 117, 116, 97, 116, 105, 111, 110]

/-- A text that may stand ahead says nothing. -/
def txM (s : Ms) : Ms := if (hdT s.l).k == 4 then tlM s else s
def deM (z : Nat) (s : Ms) : Nm × Ms := nmM z (txM s)
/-- A name, a sign, a type. -/
def ihM (z : Nat) (s : Ms) : (Nm × (Nm × Nm)) × Ms := (((deM z s).1, (tyM z (sgM z [58] (deM z s).2)).1), (tyM z (sgM z [58] (deM z s).2)).2)
def inpM (z : Nat) (s : Ms) : VarT × Ms := (⟨(ihM z s).1.1, (ihM z s).1.2, (dfltM z (ihM z s).2).1⟩, (dfltM z (ihM z s).2).2)
def atV (l : List UInt8) : Int := match Lib.atoiAll l with | .ok v => v | _ => 0
/-- Of digits: the number, or what is the most. -/
def costN (l : List UInt8) : Int := if l.length ≤ 6 then atV l else 1000000
def costV : List UInt8 → Int
  | 45 :: r => - costN r
  | l => costN l
/-- Digits that have a number, or none, or more than are asked for. -/
def intD (l : List UInt8) : Bool := decide (6 < l.length) || (match Lib.atoiAll l with | .range => false | .ok v => decide (-9000000 < v ∧ v < 9000000) | _ => true)
def intOk : List UInt8 → Bool
  | 45 :: r => intD r
  | l => intD l
def intsOk (ts : List Tk) : Bool := ts.all fun t => !(t.k == 2) || intOk t.s
def cohM (z : Nat) (s : Ms) : Ms := sgM z [58] (wdM z nS (sgM z [40] (wdM z costS s)))
def costM (z : Nat) (s : Ms) : Int × Ms := if isSg [64] (hdT s.l) then (costV (muM z 2 (cohM z (tlM s))).1, sgM z [41] (muM z 2 (cohM z (tlM s))).2) else (1, s)
def argsM (z : Nat) (s : Ms) : List VarT × Ms := soM z [40] [41] (inpM z) s
def fldM (z : Nat) (s : Ms) : FldT × Ms :=
  let n := deM z s
  let a := argsM z n.2
  let t := tyM z (sgM z [58] a.2)
  let c := costM z t.2
  (⟨n.1, a.1, t.1, c.1⟩, c.2)
/-- Names behind the first one, each with a sign ahead. -/
def nmsGo (z : Nat) (g : List UInt8) : Nat → Ms → List Nm → List Nm × Ms
  | 0, s, acc => (acc, s)
  | n + 1, s, acc => if isSg g (hdT s.l) then nmsGo z g n (nmM z (tlM s)).2 (acc ++ [(nmM z (tlM s)).1]) else (acc, s)
def nmsM (z : Nat) (g : List UInt8) (s : Ms) : List Nm × Ms := nmsGo z g ((nmM z s).2.l.length + 1) (nmM z s).2 [(nmM z s).1]
def flsM (z : Nat) (s : Ms) : List FldT × Ms := svM z [123] [125] (fldM z) s
def impM (z : Nat) (s : Ms) : List Nm × Ms := if isWd implS (hdT s.l) then nmsM z [38] (tlM s) else ([], s)
def sclM (z : Nat) (s : Ms) : TypT × Ms := (⟨1, (nmM z s).1, [], [], []⟩, (nmM z s).2)
def objM (z : Nat) (s : Ms) : TypT × Ms :=
  let n := nmM z s
  let i := impM z n.2
  let f := flsM z i.2
  (⟨2, n.1, i.1, f.1, []⟩, f.2)
def facM (z : Nat) (s : Ms) : TypT × Ms :=
  let n := nmM z s
  let f := flsM z n.2
  (⟨3, n.1, [], f.1, []⟩, f.2)
def uniM (z : Nat) (s : Ms) : TypT × Ms :=
  let n := nmM z s
  let l := nmsM z [124] (sgM z [61] n.2)
  (⟨4, n.1, l.1, [], []⟩, l.2)
def enuM (z : Nat) (s : Ms) : TypT × Ms :=
  let n := nmM z s
  let l := svM z [123] [125] (deM z) n.2
  (⟨5, n.1, l.1, [], []⟩, l.2)
def iptM (z : Nat) (s : Ms) : TypT × Ms :=
  let n := nmM z s
  let l := svM z [123] [125] (inpM z) n.2
  (⟨6, n.1, [], [], l.1⟩, l.2)
/-- The roots, where their word has been taken. -/
def rmuM (z : Nat) (s : Ms) (mu : Nm) : Nm × Ms := if isWd mutS (hdT s.l) then nmM z (sgM z [58] (tlM s)) else (mu, s)
def rooM (z : Nat) (x : SchT) (s : Ms) : SchT × Ms :=
  let q := nmM z (sgM z [58] (wdM z queryS (sgM z [123] s)))
  let m := rmuM z q.2 x.mu
  (⟨q.1, m.1, x.types⟩, sgM z [125] m.2)
def addT (x : SchT) (r : TypT × Ms) : SchT × Ms := (⟨x.qu, x.mu, x.types ++ [r.1]⟩, r.2)
/-- One definition; b: may the roots still be told? -/
def sdfM (z : Nat) (b : Bool) (x : SchT) (s : Ms) : (SchT × Bool) × Ms :=
  let s0 := txM s
  let w := nxN (hdT s0.l)
  let s1 := tlM s0
  if w == schemaS && b then (((rooM z x s1).1, false), (rooM z x s1).2)
  else if w == scalarS then (((addT x (sclM z s1)).1, b), (addT x (sclM z s1)).2)
  else if w == typeS then (((addT x (objM z s1)).1, b), (addT x (objM z s1)).2)
  else if w == faceS then (((addT x (facM z s1)).1, b), (addT x (facM z s1)).2)
  else if w == unionS then (((addT x (uniM z s1)).1, b), (addT x (uniM z s1)).2)
  else if w == enumS then (((addT x (enuM z s1)).1, b), (addT x (enuM z s1)).2)
  else if w == inputS then (((addT x (iptM z s1)).1, b), (addT x (iptM z s1)).2)
  else ((x, b), failM z 2 s0)
def sgoM (z : Nat) : Nat → Bool → SchT → Ms → SchT × Ms
  | 0, _, x, s => (x, s)
  | n + 1, b, x, s => if s.l.isEmpty then (x, s) else sgoM z n (sdfM z b x s).1.2 (sdfM z b x s).1.1 (sdfM z b x s).2
def dfR (x : SchT) : SchT := if x.qu.isEmpty then ⟨queryN, if x.types.any (fun t => t.nm == mutN) then mutN else x.mu, x.types⟩ else x
def sdlM (z : Nat) (s : Ms) : SchT × Ms := (dfR (sgoM z (s.l.length + 1) true schZ s).1, (sgoM z (s.l.length + 1) true schZ s).2)
/-- Parse: the schema, the place, the error. -/
def sparseM (s : List UInt8) : SchT × Nat × Nat :=
  if (lexP s).2.2 = 0 then
    (if (sdlM s.length ⟨(lexP s).1, 0, 0⟩).2.er = 0 then ((sdlM s.length ⟨(lexP s).1, 0, 0⟩).1, 0, 0) else (schZ, (sdlM s.length ⟨(lexP s).1, 0, 0⟩).2.wr, (sdlM s.length ⟨(lexP s).1, 0, 0⟩).2.er))
  else (schZ, (lexP s).2.1, (lexP s).2.2)

/-- 'type Query{a:Int}', as the example has it. -/
def awS : List UInt8 := [116, 121, 112, 101, 32, 81, 117, 101, 114, 121, 123, 97, 58, 73, 110, 116, 125]
theorem sm_awake : sparseM awS = (⟨queryN, [], [⟨2, queryN, [], [⟨[97], [], ([73, 110, 116], []), 1⟩], []⟩]⟩, 0, 0) := by kernel_rfl
end Go.Proofs.YtkahnlgedacppaaGreatDoor
/-
  Schemas in memory: strings, fields, types in rows.
-/
namespace Go.Proofs.YtkahnlgedacppaaGreatDoor
open Go.RowKit

def StrE : ElemR Nm := fun _ _ x cs => x.length ≤ 2000000 ∧ cs = [.string ⟨x.toArray⟩]
def FldE : ElemR FldT := fun w D x cs => (x.nm.length ≤ 2000000 ∧ x.ty.1.length ≤ 2000000 ∧ x.ty.2.length ≤ 2000000) ∧ ∃ va, cs = [.string ⟨x.nm.toArray⟩, va, .string ⟨x.ty.1.toArray⟩, .string ⟨x.ty.2.toArray⟩, .int .i64 x.cost] ∧ RowD VarE 7 w D x.args va
def TypE : ElemR TypT := fun w D x cs => x.nm.length ≤ 2000000 ∧ ∃ vn vf vi, cs = [.int .i64 (x.k : Int), .string ⟨x.nm.toArray⟩, vn, vf, vi] ∧ RowD StrE 1 w D x.names vn ∧ RowD FldE 5 w D x.flds vf ∧ RowD VarE 7 w D x.ins vi
theorem strOk : ElemOk StrE 1 := by
  refine ⟨fun _ _ h => h, fun h => ?_, fun h => ?_⟩
  · obtain ⟨_, rfl⟩ := h; rfl
  · obtain ⟨_, rfl⟩ := h
    intro u hu
    simp at hu
    rcases hu with rfl
    rfl
theorem fldOk : ElemOk FldE 5 := by
  refine ⟨fun hD hk h => ?_, fun h => ?_, fun h => ?_⟩
  · obtain ⟨h1, va, e, hR⟩ := h
    exact ⟨h1, va, e, RowD.step varOk hD hk hR⟩
  · obtain ⟨_, va, rfl, _⟩ := h; rfl
  · obtain ⟨_, va, rfl, hR⟩ := h
    intro u hu
    simp at hu
    rcases hu with rfl | rfl | rfl | rfl | rfl
    · rfl
    · exact row_one hR
    · rfl
    · rfl
    · rfl
theorem typOk : ElemOk TypE 5 := by
  refine ⟨fun hD hk h => ?_, fun h => ?_, fun h => ?_⟩
  · obtain ⟨h1, vn, vf, vi, e, hn, hf, hi⟩ := h
    exact ⟨h1, vn, vf, vi, e, RowD.step strOk hD hk hn, RowD.step fldOk hD hk hf, RowD.step varOk hD hk hi⟩
  · obtain ⟨_, vn, vf, vi, rfl, _⟩ := h; rfl
  · obtain ⟨_, vn, vf, vi, rfl, hn, hf, hi⟩ := h
    intro u hu
    simp at hu
    rcases hu with rfl | rfl | rfl | rfl | rfl
    · rfl
    · rfl
    · exact row_one hn
    · exact row_one hf
    · exact row_one hi

end Go.Proofs.YtkahnlgedacppaaGreatDoor
/-
  sdl's parser: its holder; a name behind a text, what a field costs.
-/
namespace Go.Proofs.YtkahnlgedacppaaGreatDoor
open Go.RowKit

/-- The holder is sdl's parser: the cursor, the schema as it grows, the map. -/
structure Cs extends Cx where
  hq : ∃ v1 v2 v3 v4, q 0 = .cells #[.pointer (some ⟨R, 0, none⟩), v1, v2, v3, v4] 100 (0, 0)
  hT : T = fun t => !(t.k == 2) || intOk t.s
instance : CoeOut Cs Cx := ⟨Cs.toCx⟩
theorem Pv.qs {c : Cs} {s : Ms} {w : World} (h : Pv c 0 s w) : w.cell? ⟨c.Q, 0, none⟩ = some (.pointer (some ⟨c.R, 0, none⟩)) := by
  have hb := h.qk
  obtain ⟨v1, v2, v3, v4, e⟩ := c.hq
  rw [e] at hb
  exact Lib.cell_of_heap hb 0
theorem muM_int {c : Cs} {k : Nat} {s : Ms} {w : World} (h : Pv c k s w) : (muM c.z 2 s).1 = [] ∨ intOk (muM c.z 2 s).1 = true := by
  unfold muM
  split
  · rename_i hk
    obtain ⟨m, p, _, hp, hm, hl⟩ := h.bk
    cases hs : s.l with
    | nil => rw [hs] at hk; exact absurd hk (by decide)
    | cons t r =>
      have ht : t ∈ c.ts := by
        have : t ∈ s.l := by rw [hs]; exact List.mem_cons_self ..
        rw [← hl] at this
        exact List.mem_of_mem_take (List.mem_of_mem_drop this)
      have h2 := h.ht t ht
      rw [c.hT] at h2
      rw [hs] at hk
      have hk2 : t.k = 2 := hk
      simp [hk2] at h2
      exact .inr h2
  · exact .inl rfl

set_option maxRecDepth 100000 in
theorem cInt_any {c : Cx} {k : Nat} {s : Ms} (w : World) (h : Pv c k s w) : Calls Tryz.prog 234 #[.pointer (some ⟨c.R, 0, none⟩)] w fun e w' => e = .returned (.string ⟨(muM c.z 2 s).1.toArray⟩) ∧ Pw c k (muM c.z 2 s).2 w w' := by
  have HT := cMust_any 2 (by decide) w h
  clear h
  go_enter Tryz.func234, Tryz.ntmps234
  go_wp2_with fail
  refine HT.mono ?_
  rintro e w1 ⟨rfl, hp⟩
  go_wp2_with fail
  go_ret
  exact ⟨rfl, hp⟩

/-! ### what is read is taken -/
theorem txM_fwd (s : Ms) : Fwd s (txM s) := by
  unfold txM
  split
  · exact ⟨tl_le s, id⟩
  · exact .refl s
theorem deM_eats (z : Nat) (s : Ms) : Eats s (deM z s).2 := (txM_fwd s).then (nmM_eats z _)
theorem muM_eats (z n : Nat) (s : Ms) : Fwd s (muM z n s).2 := by
  unfold muM
  split
  · exact ⟨tl_le s, id⟩
  · exact (fail_eats z (by decide) s).fwd

set_option maxHeartbeats 2000000 in
set_option maxRecDepth 100000 in
theorem sDescr_any {c : Cs} {s : Ms} (w : World) (h : Pv c 0 s w) : Calls Tryz.prog 144 #[.pointer (some ⟨c.Q, 0, none⟩)] w fun e w' => e = .returned (.string ⟨(deM c.z s).1.toArray⟩) ∧ Pw c 0 (deM c.z s).2 w w' := by
  have q00 := h.qs
  have l00 := h.ltQ
  have HT := cTakeText_any w h
  have HM := Lib.hid (show deM c.z s = nmM c.z (if (hdT s.l).k == 4 then tlM s else s) from rfl)
  generalize deM c.z s = RES at *
  generalize (if (hdT s.l).k == 4 then tlM s else s) = s1 at *
  generalize ((hdT s.l).k == 4) = b at *
  clear h
  go_enter Tryz.func144, Tryz.ntmps144
  go_wp2_with fail
  refine HT.mono ?_
  rintro e w1 ⟨rfl, p1⟩
  have qw1 := p1.1.qs
  have lw1 := p1.1.ltQ
  have HN := pNm_any w1 p1.1
  have HP1 := Lib.hid p1
  clear HT p1
  go_wp2_with fail
  refine HN.mono ?_
  rintro e w2 ⟨rfl, p2⟩
  have HX := Lib.hid (HP1.out.trans p2)
  clear HN p2
  go_wp2_with fail
  go_ret
  rw [HM.out]
  exact ⟨rfl, HX.out⟩

end Go.Proofs.YtkahnlgedacppaaGreatDoor
/-
  DERIVED: THE SHELF's CONTRACTS AT THIS DUMP, IN PLAIN WORDS (tools/lay-plain.mjs out of 'YtkahnlgedacppaaGreatDoorShelfB.lean', which tools/lay-shelf.mjs wrote): THE SAME DECLARATIONS UNDER THE SAME NAMES: 'import', 'namespace', 'open', 'def', 'theorem' AND NOTHING ELSE: no command of the shelf's: FOR A HAND-IN. Each laying: the table of numbers ('.._ren') and one theorem, a field a fact of the dump's own or the kernel's comparison; each contract: ONE APPLICATION.
-/
namespace Go.Proofs
open Go.Shelf
def Tryz.laysC172_ren : Go.Shelf.Ren := ⟨fun | 172 => 286 | 244 => 321 | 245 => 322 | 247 => 340 | 279 => 341 | 280 => 342 | 281 => 343 | 282 => 344 | 287 => 358 | 316 => 282 | 171 => 162 | 205 => 359 | 321 => 363 | 322 => 364 | 243 => 209 | 246 => 255 | 283 => 301 | 284 => 302 | 285 => 303 | 286 => 304 | 129 => 330 | 317 => 329 | 318 => 331 | 319 => 332 | 320 => 333 | 337 => 352 | 338 => 353 | n => n, fun | 9 => 9 | 3 => 3 | 75 => 179 | 76 => 180 | 4 => 4 | 5 => 5 | 167 => 342 | 37 => 128 | 0 => 0 | 85 => 343 | 2 => 2 | 168 => 345 | 53 => 315 | 175 => 353 | 46 => 216 | 210 => 356 | 127 => 183 | 145 => 362 | 143 => 360 | 21 => 21 | 171 => 318 | 173 => 321 | 212 => 337 | 51 => 312 | 20 => 20 | 213 => 338 | 232 => 358 | 233 => 359 | 80 => 85 | n => n, fun | 15 => 4 | 16 => 5 | 17 => 3 | 18 => 6 | 19 => 7 | n => n⟩
theorem Tryz.laysC172 : Go.Proofs.LaysC.n172 Tryz.prog Tryz.laysC172_ren := {
  mixed := by kernel_rfl
  f129 := Tryz.func330.trans (congrArg some (by kernel_rfl))
  f171 := Tryz.func162.trans (congrArg some (by kernel_rfl))
  f172 := Tryz.func286.trans (congrArg some (by kernel_rfl))
  f205 := Tryz.func359.trans (congrArg some (by kernel_rfl))
  f243 := Tryz.func209.trans (congrArg some (by kernel_rfl))
  f244 := Tryz.func321.trans (congrArg some (by kernel_rfl))
  f245 := Tryz.func322.trans (congrArg some (by kernel_rfl))
  f246 := Tryz.func255.trans (congrArg some (by kernel_rfl))
  f247 := Tryz.func340.trans (congrArg some (by kernel_rfl))
  f279 := Tryz.func341.trans (congrArg some (by kernel_rfl))
  f280 := Tryz.func342.trans (congrArg some (by kernel_rfl))
  f281 := Tryz.func343.trans (congrArg some (by kernel_rfl))
  f282 := Tryz.func344.trans (congrArg some (by kernel_rfl))
  f283 := Tryz.func301.trans (congrArg some (by kernel_rfl))
  f284 := Tryz.func302.trans (congrArg some (by kernel_rfl))
  f285 := Tryz.func303.trans (congrArg some (by kernel_rfl))
  f286 := Tryz.func304.trans (congrArg some (by kernel_rfl))
  f287 := Tryz.func358.trans (congrArg some (by kernel_rfl))
  f316 := Tryz.func282.trans (congrArg some (by kernel_rfl))
  f317 := Tryz.func329.trans (congrArg some (by kernel_rfl))
  f318 := Tryz.func331.trans (congrArg some (by kernel_rfl))
  f319 := Tryz.func332.trans (congrArg some (by kernel_rfl))
  f320 := Tryz.func333.trans (congrArg some (by kernel_rfl))
  f321 := Tryz.func363.trans (congrArg some (by kernel_rfl))
  f322 := Tryz.func364.trans (congrArg some (by kernel_rfl))
  f337 := Tryz.func352.trans (congrArg some (by kernel_rfl))
  f338 := Tryz.func353.trans (congrArg some (by kernel_rfl))
  t0 := Tryz.underlying0
  a0 := Tryz.isAgg0
  z0 := Tryz.sizeOf0
  v0 := Tryz.zeroValue0
  t2 := Tryz.underlying2
  a2 := Tryz.isAgg2
  z2 := Tryz.sizeOf2
  v2 := Tryz.zeroValue2
  t3 := Tryz.underlying3
  a3 := Tryz.isAgg3
  z3 := Tryz.sizeOf3
  v3 := Tryz.zeroValue3
  t4 := Tryz.underlying4
  a4 := Tryz.isAgg4
  z4 := Tryz.sizeOf4
  v4 := Tryz.zeroValue4
  t5 := Tryz.underlying5
  a5 := Tryz.isAgg5
  z5 := Tryz.sizeOf5
  v5 := Tryz.zeroValue5
  t9 := Tryz.underlying9
  a9 := Tryz.isAgg9
  z9 := Tryz.sizeOf9
  v9 := Tryz.zeroValue9
  t20 := Tryz.underlying20
  a20 := Tryz.isAgg20
  z20 := Tryz.sizeOf20
  v20 := Tryz.zeroValue20
  t21 := Tryz.underlying21
  a21 := Tryz.isAgg21
  z21 := Tryz.sizeOf21
  v21 := Tryz.zeroValue21
  t37 := Tryz.underlying128
  a37 := Tryz.isAgg128
  z37 := Tryz.sizeOf128
  v37 := Tryz.zeroValue128
  t46 := Tryz.underlying216
  a46 := Tryz.isAgg216
  z46 := Tryz.sizeOf216
  v46 := Tryz.zeroValue216
  t51 := Tryz.underlying312
  a51 := Tryz.isAgg312
  z51 := Tryz.sizeOf312
  v51 := Tryz.zeroValue312
  t53 := Tryz.underlying315
  a53 := Tryz.isAgg315
  z53 := Tryz.sizeOf315
  v53 := Tryz.zeroValue315
  t75 := Tryz.underlying179
  a75 := Tryz.isAgg179
  z75 := Tryz.sizeOf179
  v75 := Tryz.zeroValue179
  t76 := Tryz.underlying180
  a76 := Tryz.isAgg180
  z76 := Tryz.sizeOf180
  v76 := Tryz.zeroValue180
  t85 := Tryz.underlying343
  a85 := Tryz.isAgg343
  z85 := Tryz.sizeOf343
  v85 := Tryz.zeroValue343
  t127 := Tryz.underlying183
  a127 := Tryz.isAgg183
  z127 := Tryz.sizeOf183
  v127 := Tryz.zeroValue183
  t143 := Tryz.underlying360
  a143 := Tryz.isAgg360
  z143 := Tryz.sizeOf360
  v143 := Tryz.zeroValue360
  t145 := Tryz.underlying362
  a145 := Tryz.isAgg362
  z145 := Tryz.sizeOf362
  v145 := Tryz.zeroValue362
  t167 := Tryz.underlying342
  a167 := Tryz.isAgg342
  z167 := Tryz.sizeOf342
  v167 := Tryz.zeroValue342
  t168 := Tryz.underlying345
  a168 := Tryz.isAgg345
  z168 := Tryz.sizeOf345
  v168 := Tryz.zeroValue345
  t171 := Tryz.underlying318
  a171 := Tryz.isAgg318
  z171 := Tryz.sizeOf318
  v171 := Tryz.zeroValue318
  t173 := Tryz.underlying321
  a173 := Tryz.isAgg321
  z173 := Tryz.sizeOf321
  v173 := Tryz.zeroValue321
  t175 := Tryz.underlying353
  a175 := Tryz.isAgg353
  z175 := Tryz.sizeOf353
  v175 := Tryz.zeroValue353
  t210 := Tryz.underlying356
  a210 := Tryz.isAgg356
  z210 := Tryz.sizeOf356
  v210 := Tryz.zeroValue356
  t212 := Tryz.underlying337
  a212 := Tryz.isAgg337
  z212 := Tryz.sizeOf337
  v212 := Tryz.zeroValue337
  t213 := Tryz.underlying338
  a213 := Tryz.isAgg338
  z213 := Tryz.sizeOf338
  t232 := Tryz.underlying358
  a232 := Tryz.isAgg358
  z232 := Tryz.sizeOf358
  v232 := Tryz.zeroValue358
  t233 := Tryz.underlying359
  a233 := Tryz.isAgg359
  z233 := Tryz.sizeOf359
  v233 := Tryz.zeroValue359
  g15 := by kernel_rfl
  g16 := by kernel_rfl
  g17 := by kernel_rfl
  g18 := by kernel_rfl
  g19 := by kernel_rfl
  t80 := Tryz.underlying85
  a80 := Tryz.isAgg85
  z80 := Tryz.sizeOf85
  v80 := Tryz.zeroValue85
  i0 := by kernel_rfl
  i2 := by kernel_rfl
  i3 := by kernel_rfl
  i4 := by kernel_rfl
  i5 := by kernel_rfl
  i9 := by kernel_rfl
  i20 := by kernel_rfl
  i21 := by kernel_rfl
  i37 := by kernel_rfl
  i46 := by kernel_rfl
  i51 := by kernel_rfl
  i53 := by kernel_rfl
  i75 := by kernel_rfl
  i76 := by kernel_rfl
  i80 := by kernel_rfl
  i85 := by kernel_rfl
  i127 := by kernel_rfl
  i143 := by kernel_rfl
  i145 := by kernel_rfl
  i167 := by kernel_rfl
  i168 := by kernel_rfl
  i171 := by kernel_rfl
  i173 := by kernel_rfl
  i175 := by kernel_rfl
  i210 := by kernel_rfl
  i212 := by kernel_rfl
  i232 := by kernel_rfl
  i233 := by kernel_rfl
  m15 := by kernel_rfl
  m16 := by kernel_rfl
  m17 := by kernel_rfl
  m18 := by kernel_rfl
  m19 := by kernel_rfl
  c0 := by kernel_rfl
  c2 := by kernel_rfl
  c3 := by kernel_rfl
  c4 := by kernel_rfl
  c5 := by kernel_rfl
  c9 := by kernel_rfl
  c20 := by kernel_rfl
  c21 := by kernel_rfl
  c37 := by kernel_rfl
  c46 := by kernel_rfl
  c51 := by kernel_rfl
  c53 := by kernel_rfl
  c75 := by kernel_rfl
  c76 := by kernel_rfl
  c80 := by kernel_rfl
  c85 := by kernel_rfl
  c127 := by kernel_rfl
  c143 := by kernel_rfl
  c145 := by kernel_rfl
  c167 := by kernel_rfl
  c168 := by kernel_rfl
  c171 := by kernel_rfl
  c173 := by kernel_rfl
  c175 := by kernel_rfl
  c210 := by kernel_rfl
  c212 := by kernel_rfl
  c213 := by kernel_rfl
  c232 := by kernel_rfl
  c233 := by kernel_rfl }
open Go.RowKit in
/-- strconv.Atoi, AT EVERY STRING THAT SPELLS AN int ('Lib.atoiAll .. = .ok v'; of whatever length: leading zeros count): v, AND NO ERROR. The world: as it was, or with the one new row that '[]byte(..)' lays. (LAID: no walk: one application.) -/
theorem Tryz.strconv_Atoi_ok (s : ByteArray) (hmax : s.size ≤ 9223372036854775806) (v : Int) (h : Lib.atoiAll s.data.toList = .ok v) (w : World) :
    Calls Tryz.prog 286 #[.string s] w fun e w' => e = .returned (.tuple #[.int .i64 v, .nilIface]) ∧ (w' = w ∨ ∃ t, w' = Lib.bytesWorld w 5 t) := Any.strconv_Atoi_ok Tryz.laysC172 s hmax v h w
open Go.RowKit in
/-- strconv.Atoi, AT EVERY STRING THAT IS NO DECIMAL NUMERAL ('.syntax'): 0, AND AN ERROR THAT IS NOT nil: a *NumError in a new block N: {Func: "Atoi", Num: s's bytes, Err: what the variable ErrSyntax holds}. Of what was there nothing has turned. (LAID: no walk: one application.) -/
theorem Tryz.strconv_Atoi_syntax (s : ByteArray) (hlim : s.size ≤ 281474976710656) (h : Lib.atoiAll s.data.toList = Lib.NumEnd.syntax) (ev : Value) (w : World) (hv : w.cell? ⟨4, 0, none⟩ = some ev) (hev : ev = .nilIface ∨ ∃ te pe, ev = .iface te pe) :
    Calls Tryz.prog 286 #[.string s] w fun e w' => ∃ N, e = .returned (.tuple #[.int .i64 (0), .iface 345 (.pointer (some ⟨N, 0, none⟩))]) ∧ w.heap.size ≤ N ∧ w'.heap[N]? = some (.cells #[.string ⟨#[65, 116, 111, 105]⟩, .string s, ev] 356 (0, 0)) ∧ Below w.heap.size w w' := Any.strconv_Atoi_syntax Tryz.laysC172 s hlim h ev w hv hev
end Go.Proofs
/-
  Atoi, asked of at most six bytes.
-/
namespace Go.Proofs.YtkahnlgedacppaaGreatDoor
open Go.RowKit

/-- The library's error for what is no number lies where it must. -/
def EvOk (w : World) : Prop := ∃ ev, w.cell? ⟨4, 0, none⟩ = some ev ∧ (ev = .nilIface ∨ ∃ te pe, ev = .iface te pe)
theorem EvOk.keep (w w' : World) (h : ∀ b, b < 4 + 1 → w'.heap[b]? = w.heap[b]?) (e : EvOk w) : EvOk w' := by
  obtain ⟨ev, hc, h2⟩ := e
  exact ⟨ev, (World.cell?_of_block (a := ⟨4, 0, none⟩) (h _ (Nat.lt_succ_self _))).trans hc, h2⟩
theorem atoi_any (d : List UInt8) (w : World) (hi : intD d = true) (h6 : d.length ≤ 6) (hJ : EvOk w) : Calls Tryz.prog 286 #[.string ⟨d.toArray⟩] w fun e w' => (∃ v, e = .returned (.tuple #[.int .i64 (atV d), v])) ∧ Below w.heap.size w w' := by
  have hd : (⟨d.toArray⟩ : ByteArray).data.toList = d := by simp
  have hs : (⟨d.toArray⟩ : ByteArray).size = d.length := by simp [ByteArray.size]
  unfold intD at hi
  rw [Bool.or_eq_true, decide_eq_true_eq] at hi
  have hi := hi.resolve_left (by omega)
  unfold atV
  rcases ha : Lib.atoiAll d with v | _ | _
  · refine (Tryz.strconv_Atoi_ok ⟨d.toArray⟩ (by omega) v (by rw [hd]; exact ha) w).mono ?_
    rintro e w' ⟨rfl, hw⟩
    refine ⟨⟨_, rfl⟩, ?_⟩
    rcases hw with rfl | ⟨t, rfl⟩
    · exact Below.refl _ _
    · exact Lib.bytesWorld_below _ _ _
  · obtain ⟨ev, hc, hev⟩ := hJ
    refine (Tryz.strconv_Atoi_syntax ⟨d.toArray⟩ (by omega) (by rw [hd]; exact ha) ev w hc hev).mono ?_
    rintro e w' ⟨N, rfl, _, _, hb⟩
    exact ⟨⟨_, rfl⟩, hb⟩
  · rw [ha] at hi; exact absurd hi (by decide)

end Go.Proofs.YtkahnlgedacppaaGreatDoor
/-
  sdl's parser: what a field costs.
-/
namespace Go.Proofs.YtkahnlgedacppaaGreatDoor
open Go.RowKit

theorem intD_costN {l : List UInt8} (h : intD l = true) : -9000000 < costN l ∧ costN l < 9000000 := by
  unfold costN atV
  unfold intD at h
  split
  · rename_i hl
    rw [Bool.or_eq_true, decide_eq_true_eq] at h
    rcases h with h | h
    · omega
    · rcases ha : Lib.atoiAll l with v | _ | _
      · rw [ha] at h; simpa using h
      · decide
      · decide
  · decide
/-- What CutPrefix makes of a number's text. -/
theorem cut45 (l : List UInt8) (h : intOk l = true) : ∃ (b : Bool) (d : List UInt8), Lib.trimPrefix l [45] = d ∧ Lib.hasPrefix l [45] = b ∧ costV l = (if b then - costN d else costN d) ∧ intD d = true ∧ d.length ≤ l.length := by
  cases l with
  | nil => exact ⟨false, [], rfl, rfl, rfl, h, Nat.le_refl _⟩
  | cons a r =>
    by_cases ha : a = 45
    · subst ha
      exact ⟨true, r, rfl, rfl, rfl, h, by simp⟩
    · have hp : Lib.hasPrefix (a :: r) [45] = false := by
        show ([45] : List UInt8).isPrefixOf (a :: r) = false
        simp [List.isPrefixOf]
        exact fun e => ha e.symm
      refine ⟨false, a :: r, ?_, hp, ?_, ?_, Nat.le_refl _⟩
      · unfold Lib.trimPrefix
        rw [hp]; rfl
      · show costV (a :: r) = costN (a :: r)
        unfold costV
        split
        · rename_i e; injection e with e _; exact absurd e ha
        · rfl
      · unfold intOk at h
        split at h
        · rename_i e; injection e with e _; exact absurd e ha
        · exact h

set_option maxHeartbeats 4000000 in
set_option maxRecDepth 100000 in
theorem costOf_any (l : List UInt8) (w : World) (hi : intOk l = true) (hJ : EvOk w) : Calls Tryz.prog 233 #[.string ⟨l.toArray⟩] w fun e w' => e = .returned (.int .i64 (costV l)) ∧ Below w.heap.size w w' := by
  have HC := Tryz.strings_CutPrefix ⟨l.toArray⟩ ⟨#[45]⟩ w
  obtain ⟨b, d, e1, e2, e3, e4, e5⟩ := cut45 l hi
  rw [show (⟨l.toArray⟩ : ByteArray).data.toList = l from by simp, show (⟨#[45]⟩ : ByteArray).data.toList = [45] from rfl, e1, e2] at HC
  have HV := Lib.hid e3
  have hb := intD_costN e4
  have HAT := Lib.hid (fun (h6 : d.length ≤ 6) => atoi_any d w e4 h6 hJ)
  have HN := Lib.hid (show costN d = if d.length ≤ 6 then atV d else 1000000 from rfl)
  have hsz : (⟨d.toArray⟩ : ByteArray).size = d.length := by simp [ByteArray.size]
  generalize (⟨d.toArray⟩ : ByteArray) = D at *
  generalize atV d = nv at *
  generalize costV l = RES at *
  clear e1 e2 e3 e4 hi hJ
  by_cases h6 : d.length ≤ 6
  · have hn := HN.out
    rw [if_pos h6] at hn
    rw [hn] at HV hb
    have hd : decide ((D.size : Int) ≤ 6) = true := decide_eq_true (by omega)
    have hd2 : decide (D.size ≤ 6) = true := decide_eq_true (by omega)
    have HA := HAT.out h6
    have hw : IntKind.i64.wrap (-nv) = -nv := IntWalk.i64_in _ (by omega)
    clear HAT hn HN
    cases b with
    | true =>
      simp only [reduceIte] at HV
      go_enter Tryz.func233, Tryz.ntmps233
      go_wp2_with fail
      refine HC.mono ?_
      rintro e w1 ⟨rfl, rfl⟩
      go_wp2_with fail
      refine HA.mono ?_
      rintro e w2 ⟨⟨v, rfl⟩, hb2⟩
      have HB := Lib.hid hb2
      clear hb2 HA HC
      go_wp2_with fail
      go_ret
      rw [HV.out]
      exact ⟨rfl, HB.out⟩
    | false =>
      simp only [reduceIte, Bool.false_eq_true] at HV
      go_enter Tryz.func233, Tryz.ntmps233
      go_wp2_with fail
      refine HC.mono ?_
      rintro e w1 ⟨rfl, rfl⟩
      go_wp2_with fail
      refine HA.mono ?_
      rintro e w2 ⟨⟨v, rfl⟩, hb2⟩
      have HB := Lib.hid hb2
      clear hb2 HA HC
      go_wp2_with fail
      go_ret
      rw [HV.out]
      exact ⟨rfl, HB.out⟩
  · have hn := HN.out
    rw [if_neg h6] at hn
    rw [hn] at HV
    have hd : decide ((D.size : Int) ≤ 6) = false := decide_eq_false (by omega)
    have hd2 : decide (D.size ≤ 6) = false := decide_eq_false (by omega)
    have hw : IntKind.i64.wrap (-1000000) = -1000000 := by decide
    clear HAT hn HN
    cases b with
    | true =>
      simp only [reduceIte] at HV
      go_enter Tryz.func233, Tryz.ntmps233
      go_wp2_with fail
      refine HC.mono ?_
      rintro e w1 ⟨rfl, rfl⟩
      go_wp2_with fail
      go_ret
      rw [HV.out]
      exact ⟨rfl, Below.refl _ _⟩
    | false =>
      simp only [reduceIte, Bool.false_eq_true] at HV
      go_enter Tryz.func233, Tryz.ntmps233
      go_wp2_with fail
      refine HC.mono ?_
      rintro e w1 ⟨rfl, rfl⟩
      go_wp2_with fail
      go_ret
      rw [HV.out]
      exact ⟨rfl, Below.refl _ _⟩

/-! ### the cost of a field -/
theorem cohM_fwd (z : Nat) (s : Ms) : Fwd s (cohM z s) := (((wdM_eats z costS s).fwd.trans (sgM_eats z [40] _).fwd).trans (wdM_eats z nS _).fwd).trans (sgM_eats z [58] _).fwd
theorem costM_fwd (z : Nat) (s : Ms) : Fwd s (costM z s).2 := by
  unfold costM
  split
  · exact (((Fwd.trans ⟨tl_le s, id⟩ (cohM_fwd z _)).trans (muM_eats z 2 _)).trans (sgM_eats z [41] _).fwd)
  · exact .refl s

set_option maxHeartbeats 4000000 in
set_option maxRecDepth 100000 in
theorem sCost_any {c : Cs} {s : Ms} (w : World) (h : Pv c 0 s w) (hJ : c.J = EvOk) : Calls Tryz.prog 187 #[.pointer (some ⟨c.Q, 0, none⟩)] w fun e w' => e = .returned (.int .i64 (costM c.z s).1) ∧ Pw c 0 (costM c.z s).2 w w' := by
  have q00 := h.qs
  have l00 := h.ltQ
  have HT := pTakeSign_any [64] w h
  have HM := Lib.hid (show costM c.z s = if isSg [64] (hdT s.l) then (costV (muM c.z 2 (sgM c.z [58] (wdM c.z nS (sgM c.z [40] (wdM c.z costS (tlM s)))))).1, sgM c.z [41] (muM c.z 2 (sgM c.z [58] (wdM c.z nS (sgM c.z [40] (wdM c.z costS (tlM s)))))).2) else (1, s) from rfl)
  generalize costM c.z s = RES at *
  clear h
  cases hi : isSg [64] (hdT s.l) with
  | false =>
    rw [hi] at HT HM
    simp only [reduceIte, Bool.false_eq_true] at HT HM
    clear hi
    go_enter Tryz.func187, Tryz.ntmps187
    go_wp2_with fail
    refine HT.mono ?_
    rintro e w1 ⟨rfl, p1⟩
    have HP1 := Lib.hid p1
    clear p1 HT
    go_wp2_with fail
    go_ret
    rw [HM.out]
    exact ⟨rfl, HP1.out⟩
  | true =>
    rw [hi] at HT HM
    simp only [reduceIte] at HT HM
    clear hi
    generalize tlM s = s1 at *
    go_enter Tryz.func187, Tryz.ntmps187
    go_wp2_with fail
    refine HT.mono ?_
    rintro e w1 ⟨rfl, p1⟩
    have qw1 := p1.1.qs
    have lw1 := p1.1.ltQ
    have HC := pMustWord_any costS (by decide) w1 p1.1
    have HP1 := Lib.hid p1
    generalize wdM c.z costS s1 = s2 at *
    clear p1 HT
    go_wp2_with fail
    refine HC.mono ?_
    rintro e w2 ⟨rfl, p2⟩
    have qw2 := p2.1.qs
    have lw2 := p2.1.ltQ
    have HC2 := pMust_any [40] w2 p2.1
    have HP2 := Lib.hid (HP1.out.trans p2)
    generalize sgM c.z [40] s2 = s3 at *
    clear p2 HC HP1
    go_wp2_with fail
    refine HC2.mono ?_
    rintro e w3 ⟨rfl, p3⟩
    have qw3 := p3.1.qs
    have lw3 := p3.1.ltQ
    have HC3 := pMustWord_any nS (by decide) w3 p3.1
    have HP3 := Lib.hid (HP2.out.trans p3)
    generalize wdM c.z nS s3 = s4 at *
    clear p3 HC2 HP2
    go_wp2_with fail
    refine HC3.mono ?_
    rintro e w4 ⟨rfl, p4⟩
    have qw4 := p4.1.qs
    have lw4 := p4.1.ltQ
    have HC4 := pMust_any [58] w4 p4.1
    have HP4 := Lib.hid (HP3.out.trans p4)
    generalize sgM c.z [58] s4 = s5 at *
    clear p4 HC3 HP3
    go_wp2_with fail
    refine HC4.mono ?_
    rintro e w5 ⟨rfl, p5⟩
    have qw5 := p5.1.qs
    have lw5 := p5.1.ltQ
    have HC5 := cInt_any w5 p5.1
    have HP5 := Lib.hid (HP4.out.trans p5)
    have HIO := Lib.hid (show intOk (muM c.z 2 s5).1 = true from by
      rcases muM_int p5.1 with e | e
      · rw [e]; decide
      · exact e)
    generalize muM c.z 2 s5 = R6 at *
    obtain ⟨l6, s6⟩ := R6
    dsimp only at HC5 HIO HM
    clear p5 HC4 HP4
    go_wp2_with fail
    refine HC5.mono ?_
    rintro e w6 ⟨rfl, p6⟩
    have hj6 : EvOk w6 := by
      have := p6.1.j
      rwa [hJ] at this
    have HC6 := costOf_any l6 w6 HIO.out hj6
    have HP6 := Lib.hid (HP5.out.trans p6)
    clear p6 HC5 HP5 hj6
    go_wp2_with fail
    refine HC6.mono ?_
    rintro e w7 ⟨rfl, b7⟩
    have p7 := HP6.out.below b7
    have qw7 := p7.1.qs
    have lw7 := p7.1.ltQ
    have HC7 := pMust_any [41] w7 p7.1
    have HP7 := Lib.hid p7
    clear p7 HC6 HP6 b7
    go_wp2_with fail
    refine HC7.mono ?_
    rintro e w8 ⟨rfl, p8⟩
    have HX := Lib.hid (HP7.out.trans p8)
    clear HC7 p8
    go_wp2_with fail
    go_ret
    rw [HM.out]
    exact ⟨rfl, HX.out⟩

end Go.Proofs.YtkahnlgedacppaaGreatDoor
/-
  doc's parser: arguments, or none; a directive; directives.
-/
namespace Go.Proofs.YtkahnlgedacppaaGreatDoor
open Go.RowKit

end Go.Proofs.YtkahnlgedacppaaGreatDoor
