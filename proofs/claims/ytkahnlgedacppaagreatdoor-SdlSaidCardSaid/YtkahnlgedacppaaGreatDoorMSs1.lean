/-
  SdlSaid: its walk.
-/
import Derived.Test.YtkahnlgedacppaaGreatDoorMSs0
import Derived.Test.YtkahnlgedacppaaGreatDoorMLaidE
namespace Go.Proofs.YtkahnlgedacppaaGreatDoor
open Go.RowKit

theorem ss_facts {w : World} {M : Nat → Prop} {D : List UInt8} {vt : Value} (h : RowD TypE 5 w M (saS D).types vt) : ∃ g off c g2 off2 c2 g3 off3 c3 g4 off4 c4, vt = .slice (some ⟨g, off, none⟩) 2 c ∧ (2 ≤ c ∧ 1 ≤ c2 ∧ 1 ≤ c3 ∧ 2 ≤ c4) ∧ (M g ∧ M g2 ∧ M g3 ∧ M g4) ∧ w.cell? ⟨g, off + 3, none⟩ = some (.slice (some ⟨g2, off2, none⟩) 1 c2) ∧ w.cell? ⟨g, off + 5 + 2, none⟩ = some (.slice (some ⟨g4, off4, none⟩) 2 c4) ∧
    (w.cell? ⟨g2, off2, none⟩ = some (.string ⟨#[97]⟩) ∧ w.cell? ⟨g2, off2 + 1, none⟩ = some (.slice (some ⟨g3, off3, none⟩) 1 c3) ∧ w.cell? ⟨g2, off2 + 2, none⟩ = some (.string ⟨#[69]⟩) ∧ w.cell? ⟨g2, off2 + 3, none⟩ = some (.string ⟨#[]⟩) ∧ w.cell? ⟨g2, off2 + 4, none⟩ = some (.int .i64 (costV D))) ∧
    w.cell? ⟨g3, off3 + 4, none⟩ = some (.string ⟨#[53]⟩) ∧ w.cell? ⟨g4, off4 + 1, none⟩ = some (.string ⟨#[89]⟩) := by
  obtain ⟨a, c, rfl, -, hc, hr⟩ := h
  obtain ⟨g, off, rfl, hg, hel⟩ := hr (Nat.succ_pos _)
  obtain ⟨cs, hl, hcs, hE⟩ := hel 0 _ rfl
  obtain ⟨_, vn, vf, vi, rfl, hn1, hf1, hi1⟩ := hE
  obtain ⟨cs', hl', hcs', hE'⟩ := hel 1 _ rfl
  obtain ⟨_, vn', vf', vi', rfl, hn1', hf1', hi1'⟩ := hE'
  obtain ⟨a2, c2, rfl, -, hc2, hr2⟩ := hf1
  obtain ⟨g2, off2, rfl, hg2, hel2⟩ := hr2 (Nat.succ_pos _)
  obtain ⟨cs2, hl2, hcs2, hE2⟩ := hel2 0 _ rfl
  obtain ⟨_, va, rfl, hva⟩ := hE2
  obtain ⟨a3, c3, rfl, -, hc3, hr3⟩ := hva
  obtain ⟨g3, off3, rfl, hg3, hel3⟩ := hr3 (Nat.succ_pos _)
  obtain ⟨cs3, hl3, hcs3, hE3⟩ := hel3 0 _ rfl
  obtain ⟨_, y0, y1, y2, y3, rfl, hy⟩ := hE3
  obtain ⟨an, cn, ap, cp, ey⟩ := hy.shape
  injection ey with ey
  have ey' := congrArg Array.toList ey
  simp at ey'
  obtain ⟨-, rfl, -, -⟩ := ey'
  obtain ⟨a4, c4, rfl, -, hc4, hr4⟩ := hn1'
  obtain ⟨g4, off4, rfl, hg4, hel4⟩ := hr4 (Nat.succ_pos _)
  obtain ⟨cs4, hl4, hcs4, hE4⟩ := hel4 1 _ rfl
  obtain ⟨_, rfl⟩ := hE4
  have k3 := hcs 3 _ rfl
  have k7 := hcs' 2 _ rfl
  have m0 := hcs2 0 _ rfl
  have m1 := hcs2 1 _ rfl
  have m2 := hcs2 2 _ rfl
  have m3 := hcs2 3 _ rfl
  have m4 := hcs2 4 _ rfl
  have n4 := hcs3 4 _ rfl
  have p1 := hcs4 0 _ rfl
  rw [Nat.zero_mul, Nat.add_zero] at k3 m0 m1 m2 m3 m4 n4
  rw [Nat.one_mul] at k7 p1
  exact ⟨g, off, c, g2, off2, c2, g3, off3, c3, g4, off4, c4, rfl, ⟨hc, hc2, hc3, hc4⟩, ⟨hg, hg2, hg3, hg4⟩, k3, k7, ⟨m0, m1, m2, m3, m4⟩, n4, p1⟩

theorem ss_ix0 (W : World) : (Instr.index 38 (.agg #[.string ⟨#[34, 119, 111, 114, 100, 115, 34, 32]⟩, .string ⟨#[34, 34, 34, 109, 111, 114, 101, 10, 32, 119, 111, 114, 100, 115, 34, 34, 34]⟩, .string ⟨#[]⟩, .string ⟨#[34, 34]⟩]) (.int .i64 ((0 : Nat) : Int))).run Tryz.prog W = .ok (.string ⟨#[34, 119, 111, 114, 100, 115, 34, 32]⟩) W := by kernel_rfl
theorem ss_ix1 (W : World) : (Instr.index 38 (.agg #[.string ⟨#[34, 119, 111, 114, 100, 115, 34, 32]⟩, .string ⟨#[34, 34, 34, 109, 111, 114, 101, 10, 32, 119, 111, 114, 100, 115, 34, 34, 34]⟩, .string ⟨#[]⟩, .string ⟨#[34, 34]⟩]) (.int .i64 ((1 : Nat) : Int))).run Tryz.prog W = .ok (.string ⟨#[34, 34, 34, 109, 111, 114, 101, 10, 32, 119, 111, 114, 100, 115, 34, 34, 34]⟩) W := by kernel_rfl
theorem ss_ix2 (W : World) : (Instr.index 38 (.agg #[.string ⟨#[34, 119, 111, 114, 100, 115, 34, 32]⟩, .string ⟨#[34, 34, 34, 109, 111, 114, 101, 10, 32, 119, 111, 114, 100, 115, 34, 34, 34]⟩, .string ⟨#[]⟩, .string ⟨#[34, 34]⟩]) (.int .i64 ((2 : Nat) : Int))).run Tryz.prog W = .ok (.string ⟨#[]⟩) W := by kernel_rfl
theorem ss_ix3 (W : World) : (Instr.index 38 (.agg #[.string ⟨#[34, 119, 111, 114, 100, 115, 34, 32]⟩, .string ⟨#[34, 34, 34, 109, 111, 114, 101, 10, 32, 119, 111, 114, 100, 115, 34, 34, 34]⟩, .string ⟨#[]⟩, .string ⟨#[34, 34]⟩]) (.int .i64 ((3 : Nat) : Int))).run Tryz.prog W = .ok (.string ⟨#[34, 34]⟩) W := by kernel_rfl

set_option maxHeartbeats 8000000 in
set_option maxRecDepth 100000 in
theorem ss_walk (a0 a1 : Int) (w : World) (hev : EvOk w) (k n : Nat) (x : ByteArray) (hn : n < 2000000) (hx : x.size ≤ 20)
    (HPv : ∀ W, Calls Tryz.prog 19 #[.int .i64 a0, .int .i64 4] W fun e w' => e = .returned (.int .i64 (k : Int)) ∧ W = w')
    (HPc : ∀ W, Calls Tryz.prog 19 #[.int .i64 a1, .int .i64 2000000] W fun e w' => e = .returned (.int .i64 (n : Int)) ∧ W = w')
    (hix : ∀ W, (Instr.index 38 (.agg #[.string ⟨#[34, 119, 111, 114, 100, 115, 34, 32]⟩, .string ⟨#[34, 34, 34, 109, 111, 114, 101, 10, 32, 119, 111, 114, 100, 115, 34, 34, 34]⟩, .string ⟨#[]⟩, .string ⟨#[34, 34]⟩]) (.int .i64 (k : Int))).run Tryz.prog W = .ok (.string x) W)
    (P Q : List UInt8) (hP : x.data.toList ++ [116, 121, 112, 101, 32, 81, 117, 101, 114, 121, 123] ++ x.data.toList ++ [97, 40] ++ x.data.toList ++ [98, 58, 73, 110, 116, 61, 53, 41, 58, 69, 64, 99, 111, 115, 116, 40, 110, 58] = P)
    (hQ : [41, 125] ++ x.data.toList ++ [101, 110, 117, 109, 32, 69, 123] ++ x.data.toList ++ [88, 32] ++ x.data.toList ++ [89, 125] = Q)
    (h1 : sparseM (P ++ dgs 7 n ++ Q) = (saS (dgs 7 n), 0, 0)) (h2 : tokSmall (lexP (P ++ dgs 7 n ++ Q)).1 = true) (h3 : intsOk (lexP (P ++ dgs 7 n ++ Q)).1 = true) :
    Calls Tryz.prog 6 #[.int .i64 a0, .int .i64 a1] w (TrueBelow w) := by
  have HEV := Lib.hid hev
  have HDG := fun W => lawDigits_any 7 n W (by omega) (by decide) (by decide)
  have HK := Lib.hid (cost_dgs hn)
  have hdl := dgs_len 7 n
  obtain ⟨T, HT, hTs⟩ : ∃ T : ByteArray, Hid (T = x ++ ⟨#[116, 121, 112, 101, 32, 81, 117, 101, 114, 121, 123]⟩ ++ x ++ ⟨#[97, 40]⟩ ++ x ++ ⟨#[98, 58, 73, 110, 116, 61, 53, 41, 58, 69, 64, 99, 111, 115, 116, 40, 110, 58]⟩ ++ ⟨(dgs 7 n).toArray⟩ ++ ⟨#[41, 125]⟩ ++ x ++ ⟨#[101, 110, 117, 109, 32, 69, 123]⟩ ++ x ++ ⟨#[88, 32]⟩ ++ x ++ ⟨#[89, 125]⟩) ∧ T.data.toList = P ++ dgs 7 n ++ Q := by
    refine ⟨_, Lib.hid rfl, ?_⟩
    subst hP hQ
    simp only [ByteArray.data_append, Array.toList_append, List.append_assoc]
  have hTz : T.size ≤ 400 := by
    rw [HT.out]
    simp only [ByteArray.size_append]
    show x.size + 11 + x.size + 2 + x.size + 18 + (dgs 7 n).length + 2 + x.size + 7 + x.size + 2 + x.size + 2 ≤ 400
    omega
  have HP := fun W (hW : EvOk W) => sparse_any T W (by omega) (by rw [hTs]; exact h2) (by rw [hTs]; exact h3) hW
  rw [hTs, h1] at HP
  clear hTs h1 h2 h3 hP hQ hev
  have hzd : (⟨(dgs 7 n).toArray⟩ : ByteArray).size ≤ 7 := hdl
  clear hdl
  generalize dgs 7 n = D at *
  generalize (⟨D.toArray⟩ : ByteArray) = DG at *
  go_enter Tryz.func6, Tryz.ntmps6
  go_wp2_with fail
  with_reducible refine (HPv _).mono ?_
  rintro e w1 ⟨rfl, rfl⟩
  clear HPv
  go_wp2_with fail
  with_reducible refine (HPc _).mono ?_
  rintro e w1 ⟨rfl, rfl⟩
  clear HPc
  go_wp2_with fail
  refine (HDG _).mono ?_
  rintro e w2 ⟨rfl, mm, rfl⟩
  go_wp2_with fail
  rw [← HT.out]
  have HB0 := Lib.hid (below_drewN (Below.refl w.heap.size w) mm)
  refine (HP _ (EvOk.below (w := w) HB0.out HEV.out)).mono ?_
  rintro e w1 ⟨vt, rfl, hrow, b1⟩
  dsimp only at hrow
  obtain ⟨g, off, c, g2, off2, c2, g3, off3, c3, g4, off4, c4, rfl, ⟨hc, hc2, hc3, hc4⟩, ⟨hg, hg2, hg3, hg4⟩, k3, k7, ⟨m0, m1, m2, m3, m4⟩, n4, p1⟩ := ss_facts hrow
  have HB1 := Lib.hid (HB0.out.trans (b1.mono HB0.out.size))
  have HEW1 := Lib.hid (EvOk.below (w := w) HB1.out HEV.out)
  have hgl := hg.2
  have hgl2 := hg2.2
  have hgl3 := hg3.2
  have hgl4 := hg4.2
  have hd : decide ((0 : Int) < 1) = true := by decide
  have hd2 : decide ((0 : Int) < 2) = true := by decide
  have hd3 : decide ((1 : Int) < 2) = true := by decide
  clear HP hrow b1 hg hg2 hg3 hg4 HT HDG HB0
  dsimp only [saS]
  unfold queryN
  generalize costV D = K at *
  obtain rfl : K = min (n : Int) 1000000 := by
    have := HK.out
    split at this <;> omega
  clear HK
  go_wp2_with fail
  have HB2 := Lib.hid ((HB1.out.alloc HB1.out.size (.cells #[.string ⟨#[81, 117, 101, 114, 121]⟩, .string ⟨#[]⟩, .slice (some ⟨g, off, none⟩) 2 c] 30)).alloc (HB1.out.alloc HB1.out.size (.cells #[.string ⟨#[81, 117, 101, 114, 121]⟩, .string ⟨#[]⟩, .slice (some ⟨g, off, none⟩) 2 c] 30)).size (.cells #[.string ⟨#[97]⟩, .slice (some ⟨g3, off3, none⟩) 1 c3, .string ⟨#[69]⟩, .string ⟨#[]⟩, .int .i64 (min (n : Int) 1000000)] 49))
  refine (sdlAwake _ (EvOk.below (w := w) HB2.out HEV.out)).mono ?_
  rintro e w4 ⟨rfl, b4⟩
  go_wp2_with fail
  go_ret
  exact ⟨rfl, HB2.out.trans (b4.mono HB2.out.size)⟩

theorem sdlSaid_walk (a0 a1 : Int) (w : World) (hev : EvOk w) : Calls Tryz.prog 6 #[.int .i64 a0, .int .i64 a1] w (TrueBelow w) := by
  obtain ⟨k, ek, lk⟩ := srem_nat a0 4 (by omega)
  obtain ⟨n, en, ln⟩ := srem_nat a1 2000000 (by omega)
  have HPv : ∀ W, Calls Tryz.prog 19 #[.int .i64 a0, .int .i64 4] W fun e w' => e = .returned (.int .i64 (k : Int)) ∧ W = w' := fun W => by have := place_any a0 4 W (by omega) (by omega); rw [ek] at this; exact this
  have HPc : ∀ W, Calls Tryz.prog 19 #[.int .i64 a1, .int .i64 2000000] W fun e w' => e = .returned (.int .i64 (n : Int)) ∧ W = w' := fun W => by have := place_any a1 2000000 W (by omega) (by omega); rw [en] at this; exact this
  have hk : k < 4 := by omega
  have hn : n < 2000000 := by omega
  clear ek lk en ln
  match k, hk with

  | 0, _ =>
    obtain ⟨s1, s2, s3⟩ := sa_any sa_p0 sa_q0 sa_l0.1 sa_l0.2 sa_m0 sa_t0 (fun c hc => by injection hc with hc; subst hc; decide) n hn
    exact ss_walk a0 a1 w hev 0 n ⟨#[34, 119, 111, 114, 100, 115, 34, 32]⟩ hn (by decide) HPv HPc ss_ix0 (saP 0) (saQ 0) rfl rfl s1 s2 s3
  | 1, _ =>
    obtain ⟨s1, s2, s3⟩ := sa_any sa_p1 sa_q1 sa_l1.1 sa_l1.2 sa_m1 sa_t1 (fun c hc => by injection hc with hc; subst hc; decide) n hn
    exact ss_walk a0 a1 w hev 1 n ⟨#[34, 34, 34, 109, 111, 114, 101, 10, 32, 119, 111, 114, 100, 115, 34, 34, 34]⟩ hn (by decide) HPv HPc ss_ix1 (saP 1) (saQ 1) rfl rfl s1 s2 s3
  | 2, _ =>
    obtain ⟨s1, s2, s3⟩ := sa_any sa_p2 sa_q2 sa_l2.1 sa_l2.2 sa_m2 sa_t2 (fun c hc => by injection hc with hc; subst hc; decide) n hn
    exact ss_walk a0 a1 w hev 2 n ⟨#[]⟩ hn (by decide) HPv HPc ss_ix2 (saP 2) (saQ 2) rfl rfl s1 s2 s3
  | 3, _ =>
    obtain ⟨s1, s2, s3⟩ := sa_any sa_p3 sa_q3 sa_l3.1 sa_l3.2 sa_m3 sa_t3 (fun c hc => by injection hc with hc; subst hc; decide) n hn
    exact ss_walk a0 a1 w hev 3 n ⟨#[34, 34]⟩ hn (by decide) HPv HPc ss_ix3 (saP 3) (saQ 3) rfl rfl s1 s2 s3

end Go.Proofs.YtkahnlgedacppaaGreatDoor
