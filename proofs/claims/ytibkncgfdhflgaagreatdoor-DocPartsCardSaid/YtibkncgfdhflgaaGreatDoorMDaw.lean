/-
  The document's example of layer 6.
-/
import Derived.Test.YtibkncgfdhflgaaGreatDoorMDe4
import Derived.Test.YtibkncgfdhflgaaGreatDoorMEach
namespace Go.Proofs.YtibkncgfdhflgaaGreatDoor
open Go.RowKit

theorem rowNil {α : Type} {E : ElemR α} {sz : Nat} {w : World} {D : Nat → Prop} (a : Option Addr) (c : Nat) : RowD E sz w D [] (.slice a 0 c) := ⟨a, c, rfl, Nat.zero_le _, Nat.zero_le _, fun h => absurd h (Nat.lt_irrefl 0)⟩

set_option maxRecDepth 100000 in
theorem noName_any (w : World) : Calls Tryz.prog 27 #[.string ⟨#[]⟩] w fun e w' => e = .returned (.bool true) ∧ w = w' := by
  go_enter Tryz.func27, Tryz.ntmps27
  go_wp2_with fail
  go_ret
  exact ⟨rfl, rfl⟩

def selOne : SelT := .mk 1 [] [97] [] [] [] []
def opOne : OpT := ⟨false, [], [], [], [selOne]⟩
def docOne : DocT := ⟨[opOne], []⟩

set_option maxHeartbeats 4000000 in
set_option maxRecDepth 100000 in
theorem selOne_any (aa ad as7 : Option Addr) (ca cd cs7 : Nat) (w : World) : Calls Tryz.prog 50 #[.int .i64 1, .agg #[.int .i64 1, .string ⟨#[]⟩, .string ⟨#[97]⟩, .string ⟨#[]⟩, .slice aa 0 ca, .slice ad 0 cd, .slice as7 0 cs7]] w fun e w' => e = .returned (.bool true) ∧ Below w.heap.size w w' := by
  have hb0 : Below w.heap.size w (w.alloc (.cells #[.int .i64 1, .string ⟨#[]⟩, .string ⟨#[97]⟩, .string ⟨#[]⟩, .slice aa 0 ca, .slice ad 0 cd, .slice as7 0 cs7] 41)) := (Below.refl _ w).alloc (Nat.le_refl _) _
  have hx0 : (w.alloc (.cells #[.int .i64 1, .string ⟨#[]⟩, .string ⟨#[97]⟩, .string ⟨#[]⟩, .slice aa 0 ca, .slice ad 0 cd, .slice as7 0 cs7] 41)).heap[w.heap.size]? = some (.cells #[.int .i64 1, .string ⟨#[]⟩, .string ⟨#[97]⟩, .string ⟨#[]⟩, .slice aa 0 ca, .slice ad 0 cd, .slice as7 0 cs7] 41 (0, 0)) := heap_alloc_new _ _
  have hs0 : (w.alloc (.cells #[.int .i64 1, .string ⟨#[]⟩, .string ⟨#[97]⟩, .string ⟨#[]⟩, .slice aa 0 ca, .slice ad 0 cd, .slice as7 0 cs7] 41)).heap.size = w.heap.size + 1 := by simp
  have HA := fun W => eachArg_any (D := fun _ => False) (xs := []) (f := fun _ => true) W (rowNil aa ca) (fun _ h => h.elim) (fun x hx => by simp at hx)
  have HD := fun W => eachDir_any (D := fun _ => False) (xs := []) (f := fun _ => true) W (rowNil ad cd) (fun _ h => h.elim) (fun x hx => by simp at hx)
  have HN := fun W => name_any ⟨#[97]⟩ W (by decide)
  rw [show nameB (⟨#[97]⟩ : ByteArray).data.toList = true by kernel_rfl] at HN
  simp only [List.all_nil] at HA HD
  have HB0 := Lib.hid hb0
  have HX0 := Lib.hid hx0
  have HS0 := Lib.hid hs0
  clear hb0 hx0 hs0
  go_enter Tryz.func50, Tryz.ntmps50
  go_wp2_with fail
  refine (HA _).mono ?_
  rintro e w1 ⟨rfl, b1⟩
  have x1 := (b1.block _ (by rw [HS0.out]; omega)).trans HX0.out
  have B1 := Lib.hid (HB0.out.trans (b1.mono HB0.out.size))
  have l1 : w.heap.size + 1 ≤ w1.heap.size := by have := b1.size; rw [HS0.out] at this; exact this
  obtain ⟨c0, c1, c2, c3, c4, c5, c6, cf, cl⟩ := blk7 x1
  have X1 := Lib.hid x1
  clear b1 HA x1
  go_wp2_with fail
  refine (HD _).mono ?_
  rintro e w2 ⟨rfl, b2⟩
  have x2 := (b2.block _ (by omega)).trans X1.out
  have B2 := Lib.hid (B1.out.trans (b2.mono B1.out.size))
  have l2 : w.heap.size + 1 ≤ w2.heap.size := by have := b2.size; omega
  clear c0 c1 c2 c3 c4 c5 c6 cf cl
  obtain ⟨c0, c1, c2, c3, c4, c5, c6, cf, cl⟩ := blk7 x2
  have X2 := Lib.hid x2
  clear b2 HD x2
  go_wp2_with fail
  refine (HN _).mono ?_
  rintro e w3 ⟨rfl, b3⟩
  have x3 := (b3.block _ (by omega)).trans X2.out
  have B3 := Lib.hid (B2.out.trans (b3.mono B2.out.size))
  clear c0 c1 c2 c3 c4 c5 c6 cf cl
  obtain ⟨c0, c1, c2, c3, c4, c5, c6, cf, cl⟩ := blk7 x3
  clear b3 HN x3
  go_wp2_with fail
  refine (noName_any _).mono ?_
  rintro e w4 ⟨rfl, rfl⟩
  go_wp2_with fail
  go_ret
  exact ⟨rfl, B3.out⟩

set_option maxHeartbeats 4000000 in
set_option maxRecDepth 100000 in
theorem setOne_any {D : Nat → Prop} {n : Nat} {v : Value} (w : World) (hr : RowD (SelE n) 7 w D [selOne] v) (hD : ∀ b, D b → b < w.heap.size) : Calls Tryz.prog 32 #[.int .i64 1, v] w fun e w' => e = .returned (.bool true) ∧ Below w.heap.size w w' := by
  have HE := eachSel_any (n := n) 1 (f := fun _ => true) w hr hD (fun x hx cs W _ hE => by
    obtain rfl : x = selOne := by simpa using hx
    obtain ⟨n2, rfl⟩ : ∃ n2, n = n2 + 1 := by
      cases n with
      | zero => exact hE.elim
      | succ n2 => exact ⟨n2, rfl⟩
    obtain ⟨_, va, vd, vs, rfl, ha1, hd1, hs1⟩ := hE
    obtain ⟨aa, ca, rfl⟩ := ha1.shape
    obtain ⟨ad, cd, rfl⟩ := hd1.shape
    obtain ⟨as7, cs7, rfl⟩ := hs1.shape
    exact selOne_any aa ad as7 ca cd cs7 W)
  rw [show [selOne].all (fun _ => true) = true from rfl] at HE
  obtain ⟨a, cap, rfl⟩ := hr.shape
  rw [show ([selOne] : List SelT).length = 1 from rfl] at HE ⊢
  clear hr hD
  go_enter Tryz.func32, Tryz.ntmps32
  go_wp2_with fail
  refine HE.mono ?_
  rintro e w1 ⟨rfl, b1⟩
  go_wp2_with fail
  go_ret
  exact ⟨rfl, b1⟩

set_option maxHeartbeats 4000000 in
set_option maxRecDepth 100000 in
theorem opOne_any {D : Nat → Prop} {n : Nat} {aa ad as7 : Option Addr} {ca cd cs7 : Nat} (w : World) (hr : RowD (SelE n) 7 w D [selOne] (.slice as7 1 cs7)) (hD : ∀ b, D b → b < w.heap.size) : Calls Tryz.prog 16 #[.agg #[.bool false, .string ⟨#[]⟩, .slice aa 0 ca, .slice ad 0 cd, .slice as7 1 cs7]] w fun e w' => e = .returned (.bool true) ∧ Below w.heap.size w w' := by
  have hb0 : Below w.heap.size w (w.alloc (.cells #[.bool false, .string ⟨#[]⟩, .slice aa 0 ca, .slice ad 0 cd, .slice as7 1 cs7] 37)) := (Below.refl _ w).alloc (Nat.le_refl _) _
  have hx0 : (w.alloc (.cells #[.bool false, .string ⟨#[]⟩, .slice aa 0 ca, .slice ad 0 cd, .slice as7 1 cs7] 37)).heap[w.heap.size]? = some (.cells #[.bool false, .string ⟨#[]⟩, .slice aa 0 ca, .slice ad 0 cd, .slice as7 1 cs7] 37 (0, 0)) := heap_alloc_new _ _
  have hs0 : (w.alloc (.cells #[.bool false, .string ⟨#[]⟩, .slice aa 0 ca, .slice ad 0 cd, .slice as7 1 cs7] 37)).heap.size = w.heap.size + 1 := by simp
  have HV := fun W => eachVar_any (D := fun _ => False) (xs := []) (f := fun _ => true) W (rowNil aa ca) (fun _ h => h.elim) (fun x hx => by simp at hx)
  have HDD := fun W => eachDir_any (D := fun _ => False) (xs := []) (f := fun _ => true) W (rowNil ad cd) (fun _ h => h.elim) (fun x hx => by simp at hx)
  have HS := fun W (hb : Below w.heap.size w W) => setOne_any W (hr.step (selOk n) (D' := D) (w' := W) (fun _ h => h) (fun b o hd => World.cell?_of_block (a := ⟨b, o, none⟩) (hb.block b (hD b hd)))) (fun b h => Nat.lt_of_lt_of_le (hD b h) hb.size)
  simp only [List.all_nil] at HV HDD
  have HB0 := Lib.hid hb0
  have HX0 := Lib.hid hx0
  have HS0 := Lib.hid hs0
  have HSS := Lib.hid HS
  clear hb0 hx0 hs0 hr hD HS
  go_enter Tryz.func16, Tryz.ntmps16
  go_wp2_with fail
  refine (noName_any _).mono ?_
  rintro e w0 ⟨rfl, rfl⟩
  go_wp2_with fail
  refine (HV _).mono ?_
  rintro e w1 ⟨rfl, b1⟩
  have x1 := (b1.block _ (by rw [HS0.out]; omega)).trans HX0.out
  have B1 := Lib.hid (HB0.out.trans (b1.mono HB0.out.size))
  have l1 : w.heap.size + 1 ≤ w1.heap.size := by have := b1.size; rw [HS0.out] at this; exact this
  obtain ⟨c0, c1, c2, c3, c4, cf, cl⟩ := blk5 x1
  have X1 := Lib.hid x1
  clear b1 HV x1
  go_wp2_with fail
  refine (HDD _).mono ?_
  rintro e w2 ⟨rfl, b2⟩
  have x2 := (b2.block _ (by omega)).trans X1.out
  have B2 := Lib.hid (B1.out.trans (b2.mono B1.out.size))
  clear c0 c1 c2 c3 c4 cf cl
  obtain ⟨c0, c1, c2, c3, c4, cf, cl⟩ := blk5 x2
  have HS := HSS.out w2 B2.out
  clear b2 HDD x2
  go_wp2_with fail
  refine HS.mono ?_
  rintro e w3 ⟨rfl, b3⟩
  have B3 := Lib.hid (B2.out.trans (b3.mono B2.out.size))
  clear b3 HS
  go_wp2_with fail
  go_ret
  exact ⟨rfl, B3.out⟩

set_option maxHeartbeats 4000000 in
set_option maxRecDepth 100000 in
theorem checkOne_any {D : Nat → Prop} {vo vf : Value} (w : World) (hr : DocE w D docOne (.agg #[vo, vf])) (hD : ∀ b, D b → b < w.heap.size) : Calls Tryz.prog 9 #[.agg #[vo, vf]] w fun e w' => e = .returned (.bool true) ∧ Below w.heap.size w w' := by
  obtain ⟨vo', vf', e, ho, hf⟩ := hr
  injection e with e
  have e' := congrArg Array.toList e
  simp at e'
  obtain ⟨rfl, rfl⟩ := e'
  obtain ⟨ao, co, rfl⟩ := ho.shape
  obtain ⟨af, cf, rfl⟩ := hf.shape
  rw [show docOne.ops.length = 1 from rfl] at ho ⊢
  rw [show docOne.frags.length = 0 from rfl] at hf ⊢
  have hb0 : Below w.heap.size w (w.alloc (.cells #[.slice ao 1 co, .slice af 0 cf] 25)) := (Below.refl _ w).alloc (Nat.le_refl _) _
  have hx0 : (w.alloc (.cells #[.slice ao 1 co, .slice af 0 cf] 25)).heap[w.heap.size]? = some (.cells #[.slice ao 1 co, .slice af 0 cf] 25 (0, 0)) := heap_alloc_new _ _
  have hs0 : (w.alloc (.cells #[.slice ao 1 co, .slice af 0 cf] 25)).heap.size = w.heap.size + 1 := by simp
  have HO := eachOp_any (f := fun _ => true) (w.alloc (.cells #[.slice ao 1 co, .slice af 0 cf] 25)) (ho.step opOk (D' := D) (fun _ h => h) (fun b o hd => World.cell?_of_block (a := ⟨b, o, none⟩) (hb0.block b (hD b hd)))) (fun b h => Nat.lt_of_lt_of_le (hD b h) hb0.size) (fun x hx cs W hbW hE => by
    obtain rfl : x = opOne := by simpa [docOne] using hx
    obtain ⟨_, vv, vd, vs, rfl, hv1, hd1, hs1⟩ := hE
    obtain ⟨aa, ca, rfl⟩ := hv1.shape
    obtain ⟨ad, cd, rfl⟩ := hd1.shape
    obtain ⟨as7, cs7, rfl⟩ := hs1.shape
    exact opOne_any W hs1 (fun b h => Nat.lt_of_lt_of_le (Nat.lt_of_lt_of_le (hD b h) hb0.size) hbW.size))
  have HF := fun W => eachFrag_any (D := fun _ => False) (xs := []) (f := fun _ => true) W (rowNil af cf) (fun _ h => h.elim) (fun x hx => by simp at hx)
  rw [show docOne.ops.all (fun _ => true) = true from rfl] at HO
  simp only [List.all_nil] at HF
  have HB0 := Lib.hid hb0
  have HX0 := Lib.hid hx0
  have HS0 := Lib.hid hs0
  clear hb0 hx0 hs0 ho hf hD e
  go_enter Tryz.func9, Tryz.ntmps9
  go_wp2_with fail
  refine HO.mono ?_
  rintro e w1 ⟨rfl, b1⟩
  have x1 := (b1.block _ (by rw [HS0.out]; omega)).trans HX0.out
  have B1 := Lib.hid (HB0.out.trans (b1.mono HB0.out.size))
  obtain ⟨c0, c1, cf', cl⟩ := blk2 x1
  clear b1 HO x1
  go_wp2_with fail
  refine (HF _).mono ?_
  rintro e w2 ⟨rfl, b2⟩
  have B2 := Lib.hid (B1.out.trans (b2.mono B1.out.size))
  clear b2 HF
  go_wp2_with fail
  go_ret
  exact ⟨rfl, B2.out⟩

end Go.Proofs.YtibkncgfdhflgaaGreatDoor

/-
  The document's example of layer 6, as the laws ask it.
-/
namespace Go.Proofs.YtibkncgfdhflgaaGreatDoor
open Go.RowKit

theorem one_facts {w : World} {D : Nat → Prop} {vo vf : Value} (h : DocE w D docOne (.agg #[vo, vf])) : ∃ g off c g2 off2 c2 a3 c3, vo = .slice (some ⟨g, off, none⟩) 1 c ∧ vf = .slice a3 0 c3 ∧ 1 ≤ c ∧ 1 ≤ c2 ∧ D g ∧ D g2 ∧ w.cell? ⟨g, off + 4, none⟩ = some (.slice (some ⟨g2, off2, none⟩) 1 c2) ∧ w.cell? ⟨g2, off2 + 2, none⟩ = some (.string ⟨#[97]⟩) := by
  obtain ⟨vo', vf', e, ho, hf⟩ := h
  injection e with e
  have e' := congrArg Array.toList e
  simp at e'
  obtain ⟨rfl, rfl⟩ := e'
  obtain ⟨a3, c3, rfl⟩ := hf.shape
  obtain ⟨a, c, rfl, -, hc, hr⟩ := ho
  obtain ⟨g, off, rfl, hg, hel⟩ := hr (by decide)
  obtain ⟨cs, hl, hcs, hE⟩ := hel 0 opOne rfl
  obtain ⟨_, vv, vd, vs, rfl, hv1, hd1, hs1⟩ := hE
  obtain ⟨a2, c2, rfl, -, hc2, hr2⟩ := hs1
  obtain ⟨g2, off2, rfl, hg2, hel2⟩ := hr2 (by decide)
  obtain ⟨cs2, hl2, hcs2, hE2⟩ := hel2 0 selOne rfl
  obtain ⟨_, va, vd2, vs2, rfl, _⟩ := hE2
  have k4 := hcs 4 _ rfl
  have k2 := hcs2 2 _ rfl
  rw [Nat.zero_mul, Nat.add_zero] at k4 k2
  exact ⟨g, off, c, g2, off2, c2, a3, c3, rfl, rfl, hc, hc2, hg, hg2, k4, k2⟩

set_option maxHeartbeats 4000000 in
set_option maxRecDepth 100000 in
theorem docAwake (w : World) : Calls Tryz.prog 8 #[] w (TrueBelow w) := by
  have HP1 := parse_any ⟨#[123, 97, 125]⟩ w (by decide) (by kernel_rfl)
  have HP2 := fun W => parse_any ⟨#[123, 97]⟩ W (by decide) (by kernel_rfl)
  rw [show parseM (⟨#[123, 97, 125]⟩ : ByteArray).data.toList = (docOne, 0, 0) from dm_one] at HP1
  rw [show parseM (⟨#[123, 97]⟩ : ByteArray).data.toList = (docZ, 2, 2) from dm_cut] at HP2
  go_enter Tryz.func8, Tryz.ntmps8
  go_wp2_with fail
  refine HP1.mono ?_
  rintro e w1 ⟨vo, vf, rfl, hdoc, b1⟩
  dsimp only at hdoc
  obtain ⟨g, off, c, g2, off2, c2, a3, c3, rfl, rfl, hc, hc2, hg, hg2, k4, k2⟩ := one_facts hdoc
  have bA : Below w1.heap.size w1 (w1.alloc (.cells #[.slice (some ⟨g, off, none⟩) 1 c, .slice a3 0 c3] 25)) := (Below.refl _ w1).alloc (Nat.le_refl _) _
  have xA : (w1.alloc (.cells #[.slice (some ⟨g, off, none⟩) 1 c, .slice a3 0 c3] 25)).heap[w1.heap.size]? = some (.cells #[.slice (some ⟨g, off, none⟩) 1 c, .slice a3 0 c3] 25 (0, 0)) := heap_alloc_new _ _
  have sA : (w1.alloc (.cells #[.slice (some ⟨g, off, none⟩) 1 c, .slice a3 0 c3] 25)).heap.size = w1.heap.size + 1 := by simp
  have HP := HP2 (w1.alloc (.cells #[.slice (some ⟨g, off, none⟩) 1 c, .slice a3 0 c3] 25))
  have HBA := Lib.hid bA
  have HXA := Lib.hid xA
  have HSA := Lib.hid sA
  have HB1 := Lib.hid b1
  have HDOC := Lib.hid hdoc
  have HK := Lib.hid (And.intro k4 k2)
  have HG := Lib.hid (And.intro hg.2 hg2.2)
  clear HP1 HP2 bA xA sA b1 hdoc k4 k2 hg hg2
  go_wp2_with fail
  refine HP.mono ?_
  rintro e w2 ⟨vo2, vf2, rfl, hdoc2, b2⟩
  obtain ⟨vo', vf', e, ho2, hf2⟩ := hdoc2
  injection e with e
  have e' := congrArg Array.toList e
  simp at e'
  obtain ⟨rfl, rfl⟩ := e'
  obtain ⟨ao, co, rfl⟩ := ho2.shape
  obtain ⟨af, cf, rfl⟩ := hf2.shape
  have b3 : Below w1.heap.size w1 (w2.alloc (.cells #[.slice ao (docZ, 2, 2).1.ops.length co, .slice af (docZ, 2, 2).1.frags.length cf] 25)) := (HBA.out.trans (b2.mono HBA.out.size)).alloc (by have := b2.size; rw [HSA.out] at this; omega) _
  have x3 : (w2.alloc (.cells #[.slice ao (docZ, 2, 2).1.ops.length co, .slice af (docZ, 2, 2).1.frags.length cf] 25)).heap[w1.heap.size]? = some (.cells #[.slice (some ⟨g, off, none⟩) 1 c, .slice a3 0 c3] 25 (0, 0)) := by
    rw [Below.heap_alloc _ _ _ (by have := b2.size; rw [HSA.out] at this; omega), b2.block _ (by rw [HSA.out]; omega)]
    exact HXA.out
  obtain ⟨d0, d1, df, dl⟩ := blk2 x3
  have k4 := (World.cell?_of_block (a := ⟨g, off + 4, none⟩) (b3.block g HG.out.1)).trans HK.out.1
  have k2 := (World.cell?_of_block (a := ⟨g2, off2 + 2, none⟩) (b3.block g2 HG.out.2)).trans HK.out.2
  have HC := checkOne_any (D := fun b => w.heap.size ≤ b ∧ b < w1.heap.size) _ (HDOC.out.step (fun _ h => h) (fun b o hd => World.cell?_of_block (a := ⟨b, o, none⟩) (b3.block b hd.2))) (fun b h => Nat.lt_of_lt_of_le h.2 b3.size)
  have HB3 := Lib.hid (HB1.out.trans (b3.mono HB1.out.size))
  have hlt2 : w1.heap.size < w2.heap.size := by have := b2.size; rw [HSA.out] at this; omega
  clear b2 b3 x3 HP HDOC HK HG HBA HXA HSA ho2 hf2 e
  go_wp2_with fail
  refine HC.mono ?_
  rintro e w4 ⟨rfl, b4⟩
  go_wp2_with fail
  go_ret
  exact ⟨rfl, HB3.out.trans (b4.mono HB3.out.size)⟩

end Go.Proofs.YtibkncgfdhflgaaGreatDoor
