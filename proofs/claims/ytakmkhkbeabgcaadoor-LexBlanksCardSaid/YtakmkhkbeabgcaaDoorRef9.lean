/-
  What refectoryref01.Block answers.
-/
import Derived.Test.YtakmkhkbeabgcaaDoorRef8
import Derived.Deep.RegionWith
import Derived.Deep.DeepCutAuto
import Derived.Deep.CutBlock
namespace Go.Proofs.YtakmkhkbeabgcaaDoor
open Go.RowKit

theorem blank_q (s : ByteArray) (N : Nat) (h : indent s.data.toList = N) (w : World) (hs : s.size ≤ 1000000000) :
    Calls Tryd.prog 89 #[.string s] w fun e w' => e = .returned (.int .i64 N) ∧ w' = w := by
  refine (blank_at s N h w hs).mono ?_
  rintro e w' ⟨rfl, rfl⟩
  exact ⟨rfl, rfl⟩

theorem cut_zero (x : ByteArray) : cutS 0 x = x := by
  unfold cutS
  have : (min (0 : Int) (indent (bl x))).toNat = 0 := by omega
  rw [this]
  exact ByteArray.extract_zero_size
theorem cut_none (r : List ByteArray) : r.map (cutS 0) = r := by
  induction r with
  | nil => rfl
  | cons x t ih => rw [List.map_cons, ih, cut_zero]

def Front (g cap : Nat) (zs : List ByteArray) (w : World) (a : Value) (wr : World) (ys : List ByteArray) (o c : Nat) : Prop :=
  a = .slice (some ⟨g, o, none⟩) ys.length c ∧ ys.length ≤ c ∧ c ≤ cap ∧ ys.length ≤ zs.length ∧ RowAt wr g o ys ∧ Below w.heap.size w wr ∧ ∀ y ∈ ys, y.size ≤ 1000000000

set_option maxHeartbeats 8000000 in
set_option maxRecDepth 100000 in
theorem refBlock_any (s : ByteArray) (w : World) (hs : s.size ≤ 100000) :
    Calls Tryd.prog 72 #[.string s] w (StrBelow w (blockB s.data.toList)) := by
  go_enter Tryd.func72, Tryd.ntmps72
  go_wp2_with fail
  refine (refLines_any s w (by omega)).mono ?_
  rintro e w1 ⟨v, xs, rfl, hown, hmap, hne, b1, hlen⟩
  obtain ⟨g, cap, rfl, hBg, hcm, hrow⟩ := rowIs_of hown hne
  have hrl : xs.length ≤ cap := by obtain ⟨_, _, _, h, _⟩ := hrow; exact h
  cases xs with
  | nil => exact absurd rfl hne
  | cons a r =>
    have HLN : Lines s a r := ⟨hmap, by simpa using hlen⟩
    clear hmap hne hown
    have hl1 : (a :: r).length = r.length + 1 := rfl
    rw [hl1] at hlen hrl ⊢
    unfold maxLen at hcm
    have HZ := Lib.hid (show ∀ x ∈ a :: r, x.size ≤ 1000000000 from fun x hx => by have := HLN.size x hx; omega)
    clear hl1
    have HRG := Lib.hid (show ∀ i, -1 ≤ leastF ((r.take i).map bl) ∧ leastF ((r.take i).map bl) ≤ 1000000000 from by
      intro i
      refine leastF_range _ 1000000000 ?_ (-1) (by omega) (by omega)
      intro x hx
      obtain ⟨y, hy, rfl⟩ := List.mem_map.1 hx
      exact HZ.out y (List.mem_cons_of_mem _ (List.mem_of_mem_take hy)))
    go_upto_block 0 with fail
    go_cut [4, 5, 6] (fun s4 _ _ wc => ∃ L : Int, s4 = .int .i64 L ∧ -1 ≤ L ∧ L ≤ 1000000000 ∧ Hid (L = leastF (r.map bl)) ∧ w1 = wc)
    case first =>
      go_wp2_with fail
      go_loop [4, 5, 6] (fun x i _ => ∃ (j : Nat) (K : Int), j ≤ r.length ∧ i = .int .i64 ((j : Int) + 1) ∧ x = .int .i64 K ∧ Hid (K = leastF ((r.take j).map bl))) (fun _ i _ => r.length + 1 - (intOf i).toNat)
      case atStart => exact ⟨0, -1, Nat.zero_le _, rfl, rfl, Lib.hid rfl⟩
      case round =>
        obtain ⟨j, K, hj, rfl, rfl, HK⟩ := hrel
        have hrj : -1 ≤ K ∧ K ≤ 1000000000 := by rw [HK.out]; exact HRG.out j
        by_cases hlt : j < r.length
        · obtain ⟨x, hx⟩ : ∃ x, r[j]? = some x := ⟨r[j], List.getElem?_eq_getElem hlt⟩
          have hc : w1.cell? ⟨g, j + 1, none⟩ = some (.string x) := hrow.cell (j + 1) x (by simpa using hx)
          have hxs := HZ.out x (List.mem_cons_of_mem _ (List.mem_of_getElem? hx))
          obtain ⟨N, hN⟩ : ∃ N, indent x.data.toList = N := ⟨_, rfl⟩
          have hi : N ≤ x.size := by rw [← hN]; exact indent_size x
          have HN := Lib.hid (show leastF ((r.take (j + 1)).map bl) = if N < x.size ∧ (K < 0 ∨ (N : Int) < K) then (N : Int) else K by
            rw [take_next r j x hx, List.map_append, List.map_cons, List.map_nil, leastF_snoc, ← HK.out, ← hN]
            rfl)
          have HI := Lib.hid hN
          clear hx hN
          by_cases t1 : N < x.size
          · have f1 : decide (N < x.size) = true := by simpa using t1
            by_cases t2 : K < 0
            · have f2 : decide (K < 0) = true := by simpa using t2
              go_wp2_with ((go_at_call 89); (refine (blank_at x N HI.out _ hxs).mono ?_); rintro e w2 ⟨rfl, rfl⟩)
              go_round
              case rel => exact ⟨j + 1, N, by omega, by go_num, rfl, Lib.hid (by rw [HN.out, if_pos ⟨t1, .inl t2⟩])⟩
              case measure => simp [intOf]; omega
            · have f2 : decide (K < 0) = false := by simpa using t2
              by_cases t3 : (N : Int) < K
              · have f3 : decide ((N : Int) < K) = true := by simpa using t3
                go_wp2_with ((go_at_call 89); (refine (blank_at x N HI.out _ hxs).mono ?_); rintro e w2 ⟨rfl, rfl⟩)
                go_round
                case rel => exact ⟨j + 1, N, by omega, by go_num, rfl, Lib.hid (by rw [HN.out, if_pos ⟨t1, .inr t3⟩])⟩
                case measure => simp [intOf]; omega
              · have f3 : decide ((N : Int) < K) = false := by simpa using t3
                go_wp2_with ((go_at_call 89); (refine (blank_at x N HI.out _ hxs).mono ?_); rintro e w2 ⟨rfl, rfl⟩)
                go_round
                case rel => exact ⟨j + 1, K, by omega, by go_num, rfl, Lib.hid (by rw [HN.out, if_neg (by omega)])⟩
                case measure => simp [intOf]; omega
          · have f1 : decide (N < x.size) = false := by simpa using t1
            go_wp2_with ((go_at_call 89); (refine (blank_at x N HI.out _ hxs).mono ?_); rintro e w2 ⟨rfl, rfl⟩)
            go_round
            case rel => exact ⟨j + 1, K, by omega, by go_num, rfl, Lib.hid (by rw [HN.out, if_neg (by omega)])⟩
            case measure => simp [intOf]; omega
        · go_wp2_with fail
          go_meet
          case rel => exact ⟨K, rfl, hrj.1, hrj.2, Lib.hid (by rw [HK.out, List.take_of_length_le (by omega)]), rfl⟩
    case rest =>
      obtain ⟨L, rfl, hL0, hL1, HL, rfl⟩ := hcut
      obtain ⟨M, hM⟩ : ∃ M : Int, M = leastI (r.map bl) := ⟨_, rfl⟩
      have hML : M = max L 0 := by
        rw [hM]; unfold leastI; rw [← HL.out]; split <;> omega
      have HBK := Lib.hid (show joinB ((trimS (a :: r.map (cutS M))).map bl) = blockB s.data.toList by rw [hM]; exact HLN.block)
      clear hM
      go_upto_block 2 with fail
      go_cut [7] (fun _ wc => RowIs wc g cap (a :: r.map (cutS M)) ∧ Below w.heap.size w wc)
      case first =>
        go_wp2_with fail
        by_cases hL : 0 < L
        · have fL : decide ((0 : Int) < L) = true := by simpa using hL
          have hMe : L = M := by omega
          subst hMe
          clear hML
          go_loopw [7] (fun i wr => ∃ j : Nat, j ≤ r.length ∧ i = .int .i64 ((j : Int) + 1) ∧ BlockRel w g cap a r L j wr) (fun i _ => r.length + 1 - (intOf i).toNat)
          case atStart => exact ⟨0, Nat.zero_le _, rfl, by simpa using hrow, b1⟩
          case round =>
            obtain ⟨j, hj, rfl, hrw, hbw⟩ := hrel
            by_cases hlt : j < r.length
            · obtain ⟨x, hx⟩ : ∃ x, r[j]? = some x := ⟨r[j], List.getElem?_eq_getElem hlt⟩
              have hc : wr.cell? ⟨g, j + 1, none⟩ = some (.string x) := by
                rw [Nat.add_comm]; exact hrw.cell (1 + j) x (at_j r L j x hx a)
              have hf : wr.frozen? ⟨g, j + 1, none⟩ = false := hrw.frozen (j + 1)
              have hxz := HZ.out x (List.mem_cons_of_mem _ (List.mem_of_getElem? hx))
              obtain ⟨N, hN⟩ : ∃ N, indent x.data.toList = N := ⟨_, rfl⟩
              have hix : N ≤ x.size := by rw [← hN]; exact indent_size x
              obtain ⟨Q, hQ⟩ : ∃ Q : Nat, min L (N : Int) = Q := ⟨(min L (N : Int)).toNat, by omega⟩
              have hQx : Q ≤ x.size := by omega
              have HSET : Hid (RowIs (wr.setCell ⟨g, j + 1, none⟩ (.string (x.extract Q x.size))) g cap (a :: ((r.take (j + 1)).map (cutS L) ++ r.drop (j + 1)))) := Lib.hid (by
                have h := hrw.set (1 + j) (cutS L x) (by simp; omega)
                rw [cut_next r L j x hx a] at h
                have e : cutS L x = x.extract Q x.size := by
                  unfold cutS bl; rw [hN, hQ]; rfl
                rw [e, Nat.add_comm] at h
                exact h)
              have HN := Lib.hid hN
              clear hx hN
              go_wp2_with fail
              go_region_with ((go_at_call 89); (refine (blank_at x N HN.out _ hxz).mono ?_); rintro e w2 ⟨rfl, rfl⟩)
              all_goals
                go_wp2_with fail
                go_roundw
                case rel => exact ⟨j + 1, by omega, by go_num, HSET.out, (hbw.setCell (p := ⟨g, j + 1, none⟩) hBg _).drew⟩
                case measure => simp [intOf]; omega
            · go_wp2_with fail
              go_meet
              case rel =>
                have hjr : j = r.length := by omega
                subst hjr
                have h := hrw
                rw [all_cut] at h
                exact ⟨h, hbw⟩
        · have fL : decide ((0 : Int) < L) = false := by simpa using hL
          have hMe : M = 0 := by omega
          subst hMe
          clear hML
          go_loopw [7] (fun i wr => i = .int .i64 1 ∧ wr = w1) (fun i _ => 0)
          case atStart => exact ⟨rfl, rfl⟩
          case round =>
            obtain ⟨rfl, rfl⟩ := hrel
            by_cases hlt : 0 < r.length
            · go_wp2_with fail
              go_meet
              case rel => exact ⟨by rw [cut_none]; exact hrow, b1⟩
            · go_wp2_with fail
              go_meet
              case rel => exact ⟨by rw [cut_none]; exact hrow, b1⟩
      case rest =>
        obtain ⟨hrow2, b2⟩ := hcut
        have HZZ := Lib.hid (show ∀ z ∈ a :: r.map (cutS M), z.size ≤ 1000000000 from by
          intro z hz
          rcases List.mem_cons.1 hz with rfl | hz
          · exact HZ.out z (by simp)
          · obtain ⟨q, hq, rfl⟩ := List.mem_map.1 hz
            have h1 := HZ.out q (by simp [hq])
            have h2 := cutS_size M q
            omega)
        have HJL := Lib.hid (HLN.join_le hs M)
        have hzl : (a :: r.map (cutS M)).length = r.length + 1 := by simp
        have hrw2 := hrow2.all
        clear hrow2 hrow HRG HL
        have hml := HLN.len
        generalize a :: r.map (cutS M) = zs at HZZ HJL HBK hrw2 hzl
        have hzl2 : zs.length ≤ 1000000000 := by omega
        have hzc : zs.length ≤ cap := by omega
        rw [← hzl]
        clear hzl hML
        go_upto_block 4 with fail
        go_cut [3] (fun s3 wc => ∃ o c, Front g cap zs w s3 wc (trimFront zs) o c)
        case first =>
          go_wp2_with fail
          go_loopw [3] (fun x wr => ∃ ys o c, Front g cap zs w x wr ys o c ∧ Hid (trimFront zs = trimFront ys)) (fun x _ => lenV x)
          case atStart => exact ⟨zs, 0, cap, ⟨rfl, hzc, Nat.le_refl _, Nat.le_refl _, hrw2, b2, HZZ.out⟩, Lib.hid rfl⟩
          case round =>
            obtain ⟨ys, o, c, ⟨rfl, hyc, hcc, hyz, hry, hbw, hys⟩, HT⟩ := hrel
            have HY := Lib.hid hys
            clear hys
            cases ys with
            | nil =>
              have HF := Lib.hid (show trimFront zs = [] by rw [HT.out]; rfl)
              have f0 : decide ((0 : Int) < (([] : List ByteArray).length : Int)) = false := rfl
              go_wp2_with fail
              go_quiet (fail)
              go_wp2_with fail
              go_meet
              case rel =>
                rw [HF.out]
                exact ⟨o, c, rfl, hyc, hcc, hyz, hry.below (below_drewN (Below.refl _ _) _), below_drewN hbw _, HY.out⟩
            | cons x q =>
              have hc0 : wr.cell? ⟨g, o, none⟩ = some (.string x) := hry.2 0 x rfl
              have hlen : (x :: q).length = q.length + 1 := rfl
              rw [hlen]
              rw [hlen] at hyc hyz
              have hxz := HY.out x (by simp)
              obtain ⟨N, hN⟩ : ∃ N, indent x.data.toList = N := ⟨_, rfl⟩
              have f0 : decide ((0 : Int) < (q.length : Int) + 1) = true := decide_eq_true (by omega)
              have i0 : (0 : Int) < (q.length : Int) + 1 := by omega
              have HN := Lib.hid hN
              by_cases hb : N = x.size
              · have fb : ((N : Int) == (x.size : Int)) = true := by simp; omega
                have HB := Lib.hid (show blankS x = true by
                  unfold blankS blankB bl
                  rw [hN, hb]
                  exact beq_self_eq_true _)
                clear hb hN hlen
                go_wp2_with fail
                go_quiet ((go_at_call 89; exact Calls.quiet_of_same (blank_q x N HN.out _ hxz)))
                clear hc0 i0
                by_cases hc1 : c = 1
                · subst hc1
                  have hr0 : q = [] := List.eq_nil_of_length_eq_zero (by omega)
                  subst hr0
                  go_wp2_with fail
                  go_roundw
                  case rel => exact ⟨[], o, 0, ⟨rfl, Nat.zero_le _, Nat.zero_le _, Nat.zero_le _, ⟨hry.1, fun i y hy => by simp at hy⟩, below_drewN hbw _, fun y hy => by simp at hy⟩, Lib.hid (by rw [HT.out, front_cons x [] HB.out])⟩
                  case measure => simp [lenV]
                · go_wp2_with fail
                  go_roundw
                  case rel => exact ⟨q, o + 1, c - 1, ⟨rfl, by omega, by omega, by omega, (rowAt_tail hry).below (below_drewN (Below.refl _ _) _), below_drewN hbw _, fun y hy => HY.out y (by simp [hy])⟩, Lib.hid (by rw [HT.out, front_cons x q HB.out])⟩
                  case measure => simp [lenV]
              · have fb : ((N : Int) == (x.size : Int)) = false := by simp; omega
                have HB := Lib.hid (show blankS x = false by
                  unfold blankS blankB bl
                  rw [hN, beq_eq_false_iff_ne]
                  exact hb)
                have HF := Lib.hid (show trimFront zs = x :: q by rw [HT.out, front_stop x q HB.out])
                clear hb hN
                go_wp2_with fail
                go_quiet ((go_at_call 89; exact Calls.quiet_of_same (blank_q x N HN.out _ hxz)))
                go_wp2_with fail
                go_meet
                case rel =>
                  rw [HF.out]
                  exact ⟨o, c, rfl, by rw [hlen]; exact hyc, hcc, by rw [hlen]; exact hyz, hry.below (below_drewN (Below.refl _ _) _), below_drewN hbw _, HY.out⟩
        case rest =>
          obtain ⟨o, c, rfl, hyc, hcc, hyz, hry, hb3, hys⟩ := hcut
          have HTS := Lib.hid (show trimS zs = trimBack (trimFront zs) from rfl)
          have HY := Lib.hid hys
          clear hys
          generalize trimFront zs = ys at HTS hyc hyz hry HY ⊢
          go_upto_block 6 with fail
          go_cut [3] (fun s3 wc => SliceOf wc g s3 (trimS zs) ∧ Below w.heap.size w wc)
          case first =>
            go_wp2_with fail
            go_loopw [3] (fun x wr => ∃ qs c2, Front g cap zs w x wr qs o c2 ∧ Hid (trimS zs = trimBack qs)) (fun x _ => lenV x)
            case atStart => exact ⟨ys, c, ⟨rfl, hyc, hcc, hyz, hry, hb3, HY.out⟩, HTS⟩
            case round =>
              obtain ⟨qs, c2, ⟨rfl, hqc, hqcc, hqz, hrq, hbw, hqs⟩, HT⟩ := hrel
              have HQ := Lib.hid hqs
              clear hqs
              rcases nil_or_snoc qs with rfl | ⟨q, y, rfl⟩
              · have f0 : decide ((0 : Int) < (([] : List ByteArray).length : Int)) = false := rfl
                go_wp2_with fail
                go_quiet (fail)
                go_wp2_with fail
                go_meet
                case rel =>
                  refine ⟨⟨o, c2, by rw [HT.out]; rfl, by rw [HT.out]; exact Nat.zero_le _, by unfold maxLen; omega, ?_⟩, below_drewN hbw _⟩
                  rw [HT.out]
                  exact hrq.below (below_drewN (Below.refl _ _) _)
              · have hlen2 : (q ++ [y]).length = q.length + 1 := by simp
                rw [hlen2]
                rw [hlen2] at hqc hqz
                have hcl : wr.cell? ⟨g, o + q.length, none⟩ = some (.string y) := hrq.2 q.length y (by simp)
                have hxz := HQ.out y (by simp)
                obtain ⟨N, hN⟩ : ∃ N, indent y.data.toList = N := ⟨_, rfl⟩
                have f0 : decide ((0 : Int) < (q.length : Int) + 1) = true := decide_eq_true (by omega)
                have HN := Lib.hid hN
                have i1 : (q.length : Int) < (q.length : Int) + 1 := by omega
                have i2 : (0 : Int) ≤ (q.length : Int) := by omega
                have wA : IntKind.i64.wrap ((q.length : Int) + 1 - 1) = (q.length : Int) := by rw [Int.add_sub_cancel]; exact IntWalk.i64_in _ (by omega)
                have wB : IntKind.i64.wrap (q.length : Int) = (q.length : Int) := IntWalk.i64_in _ (by omega)
                by_cases hb : N = y.size
                · have fb : ((N : Int) == (y.size : Int)) = true := by simp; omega
                  have HB := Lib.hid (show blankS y = true by
                    unfold blankS blankB bl
                    rw [hN, hb]
                    exact beq_self_eq_true _)
                  clear hb hN hlen2
                  go_wp2_with fail
                  go_quiet ((go_at_call 89; exact Calls.quiet_of_same (blank_q y N HN.out _ hxz)))
                  clear hcl wA wB i1 i2
                  go_wp2_with fail
                  go_roundw
                  case rel =>
                    refine ⟨q, c2, ⟨rfl, by omega, hqcc, by omega, (rowAt_init hrq).below (below_drewN (Below.refl _ _) _), below_drewN hbw _, fun z hz => HQ.out z (by simp [hz])⟩, Lib.hid (by rw [HT.out, back_snoc q y HB.out])⟩
                  case measure => simp [lenV]
                · have fb : ((N : Int) == (y.size : Int)) = false := by simp; omega
                  have HB := Lib.hid (show blankS y = false by
                    unfold blankS blankB bl
                    rw [hN, beq_eq_false_iff_ne]
                    exact hb)
                  clear hb hN
                  go_wp2_with fail
                  go_quiet ((go_at_call 89; exact Calls.quiet_of_same (blank_q y N HN.out _ hxz)))
                  go_wp2_with fail
                  go_meet
                  case rel =>
                    have HE : trimS zs = q ++ [y] := by rw [HT.out, back_stop q y HB.out]
                    refine ⟨⟨o, c2, by rw [HE, hlen2], by rw [HE, hlen2]; exact hqc, by unfold maxLen; omega, ?_⟩, below_drewN hbw _⟩
                    rw [HE]
                    exact hrq.below (below_drewN (Below.refl _ _) _)
          case rest =>
            obtain ⟨⟨o5, c5, rfl, hc5, hm5, hr5⟩, hb5⟩ := hcut
            have hl5 : (trimS zs).length ≤ zs.length := trimS_len zs
            unfold maxLen at hm5
            clear HTS HY hry
            generalize trimS zs = ts at hl5 hc5 hr5 HBK HJL ⊢
            go_wp2_with fail
            go_loop [8, 9] (fun t i => ∃ (j : Nat) (S : ByteArray), j ≤ ts.length ∧ i = .int .i64 j ∧ t = .string S ∧ Hid (bl S = joinB ((ts.map bl).take j))) (fun _ i => ts.length - (intOf i).toNat)
            case atStart => exact ⟨0, ⟨#[]⟩, Nat.zero_le _, rfl, rfl, Lib.hid rfl⟩
            case round =>
              obtain ⟨j, S, hj, rfl, rfl, HS⟩ := hrel
              by_cases hlt : j < ts.length
              · obtain ⟨x, hx⟩ : ∃ x, ts[j]? = some x := ⟨ts[j], List.getElem?_eq_getElem hlt⟩
                have hcx := hr5.2 j x hx
                have HX := Lib.hid (show joinB ((ts.map bl).take (j + 1)) = bl S ++ ((if j = 0 then [] else [10]) ++ bl x) by
                  rw [take_next (ts.map bl) j (bl x) (by rw [List.getElem?_map, hx]; rfl), joinB_snoc, ← HS.out]
                  have : ((ts.map bl).take j).length = j := by rw [List.length_take, List.length_map]; omega
                  rw [this])
                have hsz : S.size + (if j = 0 then 0 else 1) + x.size ≤ 1000000000000 := by
                  have h := joinB_take_le (ts.map bl) (j + 1)
                  have h2 := HJL.out
                  rw [HX.out, List.length_append, List.length_append] at h
                  have hxl : (bl x).length = x.size := rfl
                  have hSl : (bl S).length = S.size := rfl
                  split at h
                  · rename_i h0; rw [if_pos h0]; simp at h; omega
                  · rename_i h0; rw [if_neg h0]; simp at h; omega
                clear hx
                by_cases hj0 : j = 0
                · subst hj0
                  have hc0 : wc.cell? ⟨g, o5, none⟩ = some (.string x) := hcx
                  rw [if_pos rfl] at hsz
                  clear hcx
                  go_wp2_with fail
                  go_round
                  case rel => exact ⟨1, S ++ x, by omega, rfl, rfl, Lib.hid (by rw [HX.out, bl_app]; rfl)⟩
                  case measure => simp [intOf]; omega
                · have f0 : decide ((0 : Int) < (j : Int)) = true := by simp; omega
                  have HJ := Lib.hid hj0
                  rw [if_neg hj0] at hsz
                  have z1 : (S ++ ⟨#[10]⟩).size = S.size + 1 := by rw [ByteArray.size_append]; rfl
                  have z2 : (S ++ ⟨#[10]⟩).size ≤ 1000000000000 := by omega
                  have z3 : (S ++ ⟨#[10]⟩).size + x.size ≤ 1000000000000 := by omega
                  clear z1
                  go_wp2_with fail
                  go_round
                  case rel => exact ⟨j + 1, S ++ ⟨#[10]⟩ ++ x, by omega, by go_num, rfl, Lib.hid (by
                    rw [HX.out, if_neg HJ.out, bl_app, bl_app, List.append_assoc]; rfl)⟩
                  case measure => simp [intOf]; omega
              · have HE := Lib.hid (show bl S = blockB s.data.toList by
                  rw [HS.out, List.take_of_length_le (by rw [List.length_map]; omega), HBK.out])
                go_wp2_with fail
                go_ret
                refine ⟨?_, hb5⟩
                rw [← HE.out]
                rfl

end Go.Proofs.YtakmkhkbeabgcaaDoor
