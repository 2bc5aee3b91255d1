/-
  What refectoryref01.escape and Quote answer.
-/
import Derived.Test.YtakmkhkbeabgcaaDoorRef2
import Derived.Test.YtakmkhkbeabgcaaDoorSmall
namespace Go.Proofs.YtakmkhkbeabgcaaDoor
open Go.RowKit

def escOf (c : Int) : Int := if c = 8 then 98 else if c = 9 then 116 else if c = 10 then 110 else if c = 12 then 102 else if c = 13 then 114 else 0

theorem ret_u8 {a b : Int} (h : a = b) : Ending.returned (.int .u8 a) = .returned (.int .u8 b) := by rw [h]

theorem letOf_esc (c : Int) (h1 : c ≠ 34) (h2 : c ≠ 92) : letOf c = escOf c := by
  unfold letOf escOf
  rw [if_neg (by omega)]

/-- One byte of the text, quoted, as the page's own answer lays it on. -/
def escS (s : ByteArray) (pos : Nat) : ByteArray := ⟨(escB (s.get! pos)).toArray⟩

theorem esc_same (s : ByteArray) (pos : Nat) (h : pos < s.size) (hc : s[pos] = 34 ∨ s[pos] = 92) : bl (⟨#[92]⟩ ++ s.extract pos (pos + 1)) = escB s[pos] := by
  show (_ ++ _ : ByteArray).data.toList = _
  rw [app_list, ext_one s pos h]
  rcases hc with hc | hc <;> rw [hc] <;> rfl

theorem quote_take (s : ByteArray) (pos : Nat) (h : pos < s.size) : quoteIn (s.data.toList.take (pos + 1)) = quoteIn (s.data.toList.take pos) ++ escB s[pos] := by
  unfold quoteIn
  rw [take_next s.data.toList pos s[pos] (by rw [List.getElem?_eq_getElem (by simpa using h)]; rfl), List.flatMap_append]
  simp

theorem escB_len (b : UInt8) : (escB b).length ≤ 6 := by
  unfold escB
  split
  · simp
  · split <;> simp

theorem esc_hex (b : UInt8) (h0 : letOf b.toNat = 0) (h : b.toNat < 32 ∨ b.toNat = 127) : bl (⟨#[92, 117, 48, 48]⟩ ++ hexS.extract (b.toNat / 16) (b.toNat / 16 + 1) ++ hexS.extract (b.toNat % 16) (b.toNat % 16 + 1)) = escB b := by
  have e : escB b = [92, 117, 48, 48, hexD (b.toNat / 16), hexD (b.toNat % 16)] := by
    unfold escB
    rw [if_neg (by simpa using h0), if_pos h]
  have hz : hexS.size = 16 := rfl
  rw [e]
  show (_ ++ _ ++ _ : ByteArray).data.toList = _
  rw [app_list, app_list, ext_one hexS _ (by omega), ext_one hexS _ (by omega)]
  have k1 := hex_at (b.toNat / 16) (by omega)
  have k0 := hex_at (b.toNat % 16) (by omega)
  rw [UInt8.toNat_inj.1 k1, UInt8.toNat_inj.1 k0]
  rfl
theorem esc_plain (s : ByteArray) (pos : Nat) (hp : pos < s.size) (h0 : letOf s[pos].toNat = 0) (h : ¬ (s[pos].toNat < 32 ∨ s[pos].toNat = 127)) : bl (s.extract pos (pos + 1)) = escB s[pos] := by
  have e : escB s[pos] = [s[pos]] := by
    unfold escB
    rw [if_neg (by simpa using h0), if_neg h]
  rw [e]
  exact ext_one s pos hp
theorem esc_let (b : UInt8) (h0 : letOf b.toNat ≠ 0) (he : letOf b.toNat = escOf b.toNat) : bl (⟨#[92]⟩ ++ ⟨#[UInt8.ofNat (escOf b.toNat).toNat]⟩) = escB b := by
  have e : escB b = [92, UInt8.ofNat (letOf b.toNat).toNat] := by
    unfold escB
    rw [if_pos h0]
  rw [e, he]
  exact two_list _ _
theorem of_bl (T : ByteArray) (l : List UInt8) (h : T.data.toList = l) : T = ⟨l.toArray⟩ := by
  subst h
  rfl
theorem slice_u8 (d : Nat) (hd : d < 16) (w : World) : (Instr.slice 9 (.string ⟨#[48, 49, 50, 51, 52, 53, 54, 55, 56, 57, 97, 98, 99, 100, 101, 102]⟩) (some (.int .u8 (d : Int))) (some (.int .u8 ((d : Int) + 1))) none).run Tryd.prog w = .ok (.string (hexS.extract d (d + 1))) w := by
  have hz : hexS.size = 16 := rfl
  rw [run_slice_string_if _ _ _ _ _ _ _ Tryd.underlying9, if_pos (by show _ ∧ _ ≤ (hexS.size : Int); omega), if_pos (by omega)]
  have e : ((d : Int) + 1).toNat = d + 1 := by omega
  rw [e]
  rfl

/-- The loop's relation in the page's Quote. -/
def RQ (s : ByteArray) (w : World) (a i : Value) (wr : World) : Prop :=
  ∃ (pos : Nat) (S : ByteArray), pos ≤ s.size ∧ i = .int .i64 pos ∧ a = .string S ∧ bl S = 34 :: quoteIn (s.data.toList.take pos) ∧ Below w.heap.size w wr

theorem bl_size (S : ByteArray) : S.size = (bl S).length := rfl
theorem bl_app (a b : ByteArray) : bl (a ++ b) = bl a ++ bl b := app_list a b

end Go.Proofs.YtakmkhkbeabgcaaDoor
