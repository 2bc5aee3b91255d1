/-
  What refectorylaw02.Made answers.
-/
import Derived.Test.YtkaboegjdalmeaaDoorMade4
namespace Go.Proofs.YtkaboegjdalmeaaDoor
open Go.RowKit

theorem made_any : ∀ (d : Nat), 1 ≤ d → d ≤ 6 → ∀ (B : Nat) (a : Option Addr) (cap : Nat) (zs : List Int) (at0 : Nat) (w : World), zs.length ≤ 40 → at0 ≤ 100 → B ≤ w.heap.size → IntsAt w B a zs →
    Calls Tryd.prog 19 #[.slice a zs.length cap, .int .i64 at0, .int .i64 d] w (MadeIs d w)
  | 0, h, _, _, _, _, _, _, _, _, _, _, _ => absurd h (by omega)
  | d + 1, _, hd6, B, a, cap, zs, at0, w, hl, hat, hB, hz => by
    by_cases hlt : at0 < zs.length
    · obtain ⟨b, off, ha, hb, hc⟩ := hz (by omega)
      have hu : 0 ≤ zs[at0] % 1048576 ∧ zs[at0] % 1048576 < 1048576 := ⟨Int.emod_nonneg _ (by decide), Int.emod_lt_of_pos _ (by decide)⟩
      have hp : ∀ W, Calls Tryd.prog 20 #[.int .i64 zs[at0], .int .i64 1048576] W fun e w' => e = .returned (.int .i64 ((zs[at0] % 1048576).toNat : Int)) ∧ W = w' := fun W => by
        rw [Int.toNat_of_nonneg hu.1]
        exact place_any zs[at0] 1048576 W (by decide) (by decide)
      have hcz := hc at0 _ (List.getElem?_eq_getElem hlt)
      have hul : (zs[at0] % 1048576).toNat < 1048576 := by omega
      generalize (zs[at0] % 1048576).toNat = u at hp hul
      have hbw : b < w.heap.size := by omega
      by_cases k0 : u % 7 = 0
      · exact made_0 (d + 1) (by omega) a cap zs at0 u w (by omega) hlt hul b off _ ha hbw hcz hp k0
      by_cases k1 : u % 7 = 1
      · exact made_1 (d + 1) (by omega) a cap zs at0 u w (by omega) hlt hul b off _ ha hbw hcz hp k1
      by_cases k2 : u % 7 = 2
      · exact made_2 (d + 1) (by omega) a cap zs at0 u w (by omega) hlt hul b off _ ha hbw hcz hp k2
      by_cases k3 : u % 7 = 3
      · exact made_3 (d + 1) (by omega) a cap zs at0 u w (by omega) hlt hul b off _ ha hbw hcz hp k3
      by_cases k4 : 4 < u % 7
      · exact made_hi (d + 1) (by omega) a cap zs at0 u w (by omega) hlt hul b off _ ha hbw hcz hp k4
      by_cases k5 : d = 0
      · subst k5
        exact made_flat 1 (by omega) a cap zs at0 u w (by omega) hlt hul b off _ ha hbw hcz hp (by omega) rfl
      exact made_many (7 + ((u / 7 % 2 : Nat) : Int)) ((u / 7 % 2 : Nat) : Int) rfl (by omega) d (u / 14 % 4) (by omega) (by omega) (by omega) B a cap zs at0 u w hB (by omega) hlt hz
        (fun at1 W h1 h2 h3 => made_any d (by omega) (by omega) B a cap zs at1 W hl h1 h2 h3) hul b off _ ha hbw hcz hp (by omega) (by omega) (by omega) ((d + 1 : Nat) : Int) (by omega)
    · exact made_end (d + 1) (by omega) a cap zs at0 w hat (by omega)

/-- For use: what is made reads as a value of JSON, whose text is short. -/
theorem MadeIs.use {d : Nat} (hd : d ≤ 6) {w w' : World} {e : Ending} (h : MadeIs d w e w') : ∃ (x : JV) (v : Value) (at' : Nat), e = .returned (.tuple #[v, .int .i64 at']) ∧ Rd w' w'.heap.size d x v ∧ chkAt 12 x = true ∧ (txt 12 x).length ≤ 1000000 ∧ Below w.heap.size w w' := by
  obtain ⟨x, v, at', he, _, hR, hc, ht, hb⟩ := h
  refine ⟨x, v, at', he, hR.toB fun b hb => hb.2, chk_up d 12 x (by omega) hc, ?_, hb⟩
  rw [txt_up d 12 x (by omega) hc]
  refine Nat.le_trans ht ?_
  match d, hd with
  | 0, _ | 1, _ | 2, _ | 3, _ | 4, _ | 5, _ | 6, _ => decide

end Go.Proofs.YtkaboegjdalmeaaDoor
